/- CONTRACT of the specification's l03PlainProg. -/
import Derived.Test.YtocbgbkdlfkjjaaGreatDoorMDh
set_option maxRecDepth 100000
namespace Go.Proofs.YtocbgbkdlfkjjaaGreatDoor
open Go.RowKit
open Pl
structure AppI (w1 wr v:World) (B0 X:Nat) (els:List A) (sa:Option Addr) (sc:Nat) (t:T) (b1 b10 b11 b12 b13 b14 b16:Bool) (x:A) (gy bl g cq:Nat):Prop where
 bel:Below w1.heap.size w1 v
 ord:(b16=true→b14=true)∧(b14=true→b1=true∧b13=true)∧(b13=true→b12=true)∧(b12=true→b11=true)∧(b11=true→b10=true)
 pre:b14=false→Below wr.heap.size wr v
 tree:b10=true→b14=false→x.erase=t∧x.mine v wr.heap.size
 cel:b10=true→b14=false→v.cell? ⟨gy,0,none⟩=x.cells[0]?∧v.cell? ⟨gy,1,none⟩=x.cells[1]?∧v.cell? ⟨gy,2,none⟩=x.cells[2]?∧v.cell? ⟨gy,3,none⟩=x.cells[3]?
 lit:b13=true→b14=false→v.heap[bl]?=some (.cells x.cells.toArray 31 (0,0))
 fin:b14=true→x.erase=t∧OwnA v B0 (.slice (some ⟨g,0,none⟩) (els++[x]).length cq) (els++[x])∧v.heap[X]?=some (.cells #[.int .i64 40,.string ⟨#[]⟩,.int .i64 0,if b16=true then .slice (some ⟨g,0,none⟩) (els.length+1) cq else .slice sa els.length sc] 31 (0,0))∧B0≤v.heap.size
section
variable {w1 wr v v':World} {B0 X:Nat} {els:List A} {sa:Option Addr} {sc:Nat} {t:T} {b1 b10 b11 b12 b13 b14 b16:Bool} {x:A} {gy bl g cq:Nat}
theorem AppI.start (hb:Below w1.heap.size w1 v) (h:Below wr.heap.size wr v):AppI w1 wr v B0 X els sa sc t false false false false false false false x gy bl g cq :=
 ⟨hb,⟨fun e=>ft e,fun e=>ft e,fun e=>ft e,fun e=>ft e,fun e=>ft e⟩,fun _=>h,fun e=>ft e,fun e=>ft e,fun e=>ft e,fun e=>ft e⟩
theorem AppI.no1 (h:AppI w1 wr v B0 X els sa sc t false b10 b11 b12 b13 b14 b16 x gy bl g cq) (_:true=true):b14=false:=bof (fun e=>(h.ord.2.1 e).1) rfl
theorem AppI.no12 (h:AppI w1 wr v B0 X els sa sc t b1 b10 b11 false b13 b14 b16 x gy bl g cq) (_:true=true):b14=false:=bof (fun e=>(h.ord.2.1 e).2) (bof h.ord.2.2.1 rfl)
theorem AppI.no10 (h:AppI w1 wr v B0 X els sa sc t b1 false b11 b12 b13 b14 b16 x gy bl g cq) (_:true=true):b14=false:=bof (fun e=>(h.ord.2.1 e).2) (bof h.ord.2.2.1 (bof h.ord.2.2.2.1 (bof h.ord.2.2.2.2 rfl)))
theorem AppI.s1 (h:AppI w1 wr v B0 X els sa sc t false b10 b11 b12 b13 b14 b16 x gy bl g cq):AppI w1 wr v B0 X els sa sc t true b10 b11 b12 b13 b14 b16 x gy bl g cq:=⟨h.bel,⟨h.ord.1,fun e=>⟨rfl,(h.ord.2.1 e).2⟩,h.ord.2.2⟩,h.pre,h.tree,h.cel,h.lit,h.fin⟩
theorem AppI.s11 (h:AppI w1 wr v B0 X els sa sc t b1 true false b12 b13 b14 b16 x gy bl g cq):AppI w1 wr v B0 X els sa sc t b1 true true b12 b13 b14 b16 x gy bl g cq:=⟨h.bel,⟨h.ord.1,h.ord.2.1,h.ord.2.2.1,fun _=>rfl,fun _=>rfl⟩,h.pre,h.tree,h.cel,h.lit,h.fin⟩
theorem AppI.s12 (h:AppI w1 wr v B0 X els sa sc t b1 b10 true false b13 b14 b16 x gy bl g cq):AppI w1 wr v B0 X els sa sc t b1 b10 true true b13 b14 b16 x gy bl g cq:=⟨h.bel,⟨h.ord.1,h.ord.2.1,fun _=>rfl,fun _=>rfl,h.ord.2.2.2.2⟩,h.pre,h.tree,h.cel,h.lit,h.fin⟩
theorem AppI.call (h:AppI w1 wr v B0 X els sa sc t b1 false b11 b12 b13 b14 b16 x gy bl g cq) (hb:Below v.heap.size v v') {y:A} {q:Nat} (he:y.erase=t) (hm:y.mine v' v.heap.size) (hc:v'.cell? ⟨q,0,none⟩=y.cells[0]?∧v'.cell? ⟨q,1,none⟩=y.cells[1]?∧v'.cell? ⟨q,2,none⟩=y.cells[2]?∧v'.cell? ⟨q,3,none⟩=y.cells[3]?):AppI w1 wr v' B0 X els sa sc t b1 true b11 b12 b13 b14 b16 y q bl g cq:=by
 have e11:=bof h.ord.2.2.2.2 rfl
 have e12:=bof h.ord.2.2.2.1 e11
 have e13:=bof h.ord.2.2.1 e12
 have e14:=h.no10 rfl
 have e16:=bof h.ord.1 e14
 subst e11 e12 e13 e14 e16
 exact ⟨xbQ h.bel hb,⟨fun e=>ft e,fun e=>ft e,fun e=>ft e,fun e=>ft e,fun e=>ft e⟩,fun _=>xbQ (h.pre rfl) hb,fun _ _=>⟨he,hm.mono (h.pre rfl).size⟩,fun _ _=>hc,fun e=>ft e,fun e=>ft e⟩
theorem AppI.row {k m:Int} {s:ByteArray} {a:Option Addr} {c:Nat} {l:List A} (h:AppI w1 wr v B0 X els sa sc t b1 b10 true b12 b13 b14 b16 (.node k s m a c l) gy bl g cq) (e:b14=false):v.cell? ⟨gy,0,none⟩=some (.int .i64 k)∧v.cell? ⟨gy,1,none⟩=some (.string s)∧v.cell? ⟨gy,2,none⟩=some (.int .i64 m)∧v.cell? ⟨gy,3,none⟩=some (.slice a l.length c):=h.cel (h.ord.2.2.2.2 rfl) e
theorem AppI.lay {k m:Int} {s:ByteArray} {a:Option Addr} {c:Nat} {l:List A} (h:AppI w1 wr v B0 X els sa sc t b1 b10 b11 true false b14 b16 (.node k s m a c l) gy bl g cq):AppI w1 wr (v.alloc (.cells #[.int .i64 k,.string s,.int .i64 m,.slice a l.length c] 31)) B0 X els sa sc t b1 b10 b11 true true b14 b16 (.node k s m a c l) gy v.heap.size g cq:=by
 have e14:=bof (fun e=>(h.ord.2.1 e).2) rfl
 have e16:=bof h.ord.1 e14
 subst e14 e16
 have hb:Below v.heap.size v (v.alloc (.cells #[.int .i64 k,.string s,.int .i64 m,.slice a l.length c] 31)):=(Below.refl _ _).alloc (Nat.le_refl _) _
 have hc:=fun e=>h.cel e rfl
 refine ⟨xbQ h.bel hb,⟨fun e=>ft e,fun e=>ft e,fun _=>rfl,h.ord.2.2.2.1,h.ord.2.2.2.2⟩,fun _=>xbQ (h.pre rfl) hb,fun e _=>⟨(h.tree e rfl).1,(h.tree e rfl).2.below hb⟩,fun e _=>?_,fun _ _=>heap_alloc_new _ _,fun e=>ft e⟩
 have up:∀ (i:Nat) (u:Value),v.cell? ⟨gy,i,none⟩=some u→(v.alloc (.cells #[.int .i64 k,.string s,.int .i64 m,.slice a l.length c] 31)).cell? ⟨gy,i,none⟩=some u:=fun i u hu=>(hb.cell (p:=⟨gy,i,none⟩) (World.block_lt_of_cell? v _ hu)).trans hu
 obtain ⟨c0,c1,c2,c3⟩:=hc e
 exact ⟨up 0 _ c0,up 1 _ c1,up 2 _ c2,up 3 _ c3⟩
theorem AppI.app (h:AppI w1 wr v B0 X els sa sc t true b10 b11 b12 true false b16 x gy bl g cq) (ho:OwnA wr B0 (.slice sa els.length sc) els) (hX:wr.heap[X]?=some (.cells #[.int .i64 40,.string ⟨#[]⟩,.int .i64 0,.slice sa els.length sc] 31 (0,0))) (hXB:X<B0) (hB:B0≤wr.heap.size) (hwB:w1.heap.size≤B0)
 {g' cq':Nat} (hown:v'.ownsRow B0 31 4 (.slice (some ⟨g',0,none⟩) (els.length+1) cq') (els.length+1) (xqQ els++xqQ [x])) (hgrow:v.grownBy v' (Value.slice sa els.length sc).ownBlock) (hat:(Value.slice sa els.length sc).ownBlock=some g'∨g'=v.heap.size):AppI w1 wr v' B0 X els sa sc t true b10 b11 b12 true true b16 x gy bl g' cq':=by
 have e16:=bof h.ord.1 rfl
 have e12:=h.ord.2.2.1 rfl
 have e10:=h.ord.2.2.2.2 (h.ord.2.2.2.1 e12)
 subst e16
 have hp:=h.pre rfl
 obtain ⟨he,hm⟩:=h.tree e10 rfl
 have ht:=hm.tree
 have hol:=ho.own.lt
 have hpu:=ho.pushS (xs:=[x]) hp (x1Q ht.1) (NewL.one ht.2.1) hB hown hgrow hat
 refine ⟨h.bel.grown hgrow h.bel.size (fun q e=>by have:=(hol q e).1;omega),⟨fun e=>ft e,fun _=>⟨rfl,rfl⟩,h.ord.2.2⟩,fun e=>tf e,fun _ e=>tf e,fun _ e=>tf e,fun _ e=>tf e,fun _=>⟨he,hpu,?_,by have:=hp.size;have:=hgrow.size;omega⟩⟩
 rw [if_neg (by decide)]
 exact (hgrow.block X (by have:=xiQ hX;have:=hp.size;omega) (fun e=>by have:=(hol X e.symm).1;omega)).trans ((hp.block X (xiQ hX)).trans hX)
theorem AppI.xold (h:AppI w1 wr v B0 X els sa sc t b1 b10 b11 b12 b13 true false x gy bl g cq) (_:true=true):v.heap[X]?=some (.cells #[.int .i64 40,.string ⟨#[]⟩,.int .i64 0,.slice sa els.length sc] 31 (0,0)):=by
 have:=(h.fin rfl).2.2.1
 rwa [if_neg (by decide)] at this
theorem AppI.put (h:AppI w1 wr v B0 X els sa sc t b1 b10 b11 b12 b13 true false x gy bl g cq) (hXB:X<B0) (hX1:w1.heap.size≤X):AppI w1 wr (v.setCell ⟨X,3,none⟩ (.slice (some ⟨g,0,none⟩) (els.length+1) cq)) B0 X els sa sc t b1 b10 b11 b12 b13 true true x gy bl g cq:=by
 obtain ⟨a1,a2,a3,a5⟩:=h.fin rfl
 have hset:v.grownBy (v.setCell ⟨X,3,none⟩ (.slice (some ⟨g,0,none⟩) (els.length+1) cq)) (some X):=⟨rfl,rfl,rfl,by simp [World.setCell],fun q _ hq=>Below.heap_setCell _ _ _ _ (fun e=>hq (by rw [e]))⟩
 refine ⟨h.bel.setCell (p:=⟨X,3,none⟩) hX1 _,⟨fun _=>rfl,h.ord.2⟩,fun e=>tf e,fun _ e=>tf e,fun _ e=>tf e,fun _ e=>tf e,fun _=>⟨a1,a2.grown hset (fun p e=>by cases e;exact hXB),?_,by simp [World.setCell];exact a5⟩⟩
 rw [if_pos rfl,heap_setCell_same v X 3 _ 31 _ (h.xold rfl)];rfl
theorem AppI.done (h:AppI w1 wr v B0 X els sa sc t b1 b10 b11 b12 b13 true true x gy bl g cq):x.erase=t∧OwnA v B0 (.slice (some ⟨g,0,none⟩) (els++[x]).length cq) (els++[x])∧v.heap[X]?=some (.cells #[.int .i64 40,.string ⟨#[]⟩,.int .i64 0,.slice (some ⟨g,0,none⟩) (els++[x]).length cq] 31 (0,0))∧Below w1.heap.size w1 v∧B0≤v.heap.size:=by
 obtain ⟨a1,a2,a3,a5⟩:=h.fin rfl
 rw [if_pos rfl] at a3
 exact ⟨a1,a2,by rw [List.length_append];exact a3,h.bel,a5⟩
end
theorem decl_leaf {t:T} (h:xeQ t=true) (hk:xdQ t=31∨xdQ t=32):plnK t=[t]:=by
 obtain ⟨k,s,m,kk⟩:=t
 have hk':k=31∨k=32:=hk
 have hh:=(xnQ h).1
 have hl:kk.length=0:=by
  unfold xfQ at hh
  rcases hk' with rfl | rfl
  ·rw [show xuQ 31=(0,true,true) from rfl] at hh
   simp at hh
   simpa using hh.1.1
  ·rw [show xuQ 32=(0,true,true) from rfl] at hh
   simp at hh
   simpa using hh.1.1
 obtain rfl:=List.eq_nil_of_length_eq_zero hl
 rw [yEQ (by rcases hk with h | h <;> rw [h] <;> decide)]
 rfl
theorem decls_pln {D:List T} (h:∀ t∈D,xeQ t=true) (hk:Dk D):plnL D=D:=by
 induction D with
 | nil=>rfl
 | cons x r ih =>
  simp only [plnL]
  rw [decl_leaf (h x (by simp)) (hk x (by simp)),ih (fun t ht=>h t (by simp [ht])) (fun t ht=>hk t (by simp [ht]))]
  rfl
set_option maxHeartbeats 6400000 in
theorem sPlainProg_any (s:ByteArray) (m:Int) (D:List T) (B:T) (hD:Dk D) (hDf:∀ t∈D,xeQ t=true) (hBk:xdQ B=30) (hBf:xeQ B=true) (hc:cnts (D++[B])≤499) (a:Option Addr) (cc:Nat) (w:World) (hk:Kids w 0 a (D++[B])) :
 Calls Tryz.prog 41 #[.agg #[.int .i64 40,.string s,.int .i64 m,.slice a (D.length+1) cc]] w (TPost (.node 40 ⟨#[]⟩ 0 (plnL (D++[B]))) w):=by
 rw [plnL_append,decls_pln hDf hD,show plnL [B]=[plnT B] by simp only [plnL];rw [yEQ (by rw [hBk];decide)];rfl]
 obtain ⟨P,hP⟩:∃ q,w.heap.size=q:=⟨_,rfl⟩
 have B1:Below w.heap.size w ((w.alloc (.cells #[.int .i64 40,.string s,.int .i64 m,.slice a (D.length+1) cc] 31)).alloc (.cells #[.int .i64 0,.string ⟨#[]⟩,.int .i64 0,.slice none 0 0] 31)):=((Below.refl w.heap.size w).alloc (Nat.le_refl _) _).alloc (by simp) _
 have F1:=(Four.new w 40 s m a (D.length+1) cc 31).below ((Below.refl _ _).alloc (Nat.le_refl _) (.cells #[.int .i64 0,.string ⟨#[]⟩,.int .i64 0,.slice none 0 0] 31))
 have h0:=heap_alloc_new (w.alloc (.cells #[.int .i64 40,.string s,.int .i64 m,.slice a (D.length+1) cc] 31)) (.cells #[.int .i64 0,.string ⟨#[]⟩,.int .i64 0,.slice none 0 0] 31)
 rw [show (w.alloc (.cells #[.int .i64 40,.string s,.int .i64 m,.slice a (D.length+1) cc] 31)).heap.size=w.heap.size+1 by simp] at h0
 obtain ⟨w1,hw1⟩:∃ q,(w.alloc (.cells #[.int .i64 40,.string s,.int .i64 m,.slice a (D.length+1) cc] 31)).alloc (.cells #[.int .i64 0,.string ⟨#[]⟩,.int .i64 0,.slice none 0 0] 31)=q:=⟨_,rfl⟩
 rw [hw1] at F1 B1 h0
 rw [hP] at F1 h0
 have HFP:Hid (∀ W,Below w1.heap.size w1 W→Four W P 40 s m a (D.length+1) cc):=xaQ (fun W hW=>F1.below hW)
 have H0:=xaQ h0
 have hlt:P+1<w1.heap.size:=xiQ h0
 obtain ⟨p0,p1,p2,p3⟩:=F1
 have hx0:=heap_alloc_new w1 (.cells #[.int .i64 40,.string ⟨#[]⟩,.int .i64 0,.slice none 0 0] 31)
 have B2:Below w1.heap.size w1 (w1.alloc (.cells #[.int .i64 40,.string ⟨#[]⟩,.int .i64 0,.slice none 0 0] 31)):=(Below.refl _ _).alloc (Nat.le_refl _) _
 obtain ⟨q0,q1,q2,q3⟩:=HFP.out _ B2
 obtain ⟨X,hX⟩:∃ q,w1.heap.size=q:=⟨_,rfl⟩
 have HPX:=xaQ (show P+1+1=X by rw [← hX,← hw1,← hP];simp)
 obtain ⟨w2,hw2⟩:∃ q,w1.alloc (.cells #[.int .i64 40,.string ⟨#[]⟩,.int .i64 0,.slice none 0 0] 31)=q:=⟨_,rfl⟩
 rw [hw2] at hx0 B2
 rw [hX] at hx0
 have HBX:=xaQ B2
 have HX0:=xaQ hx0
 have HK:=xaQ (hk.below B1)
 have HB:=xaQ B1
 have HXE:=xaQ hX
 obtain ⟨B0,hB0⟩:∃ q,w2.heap.size=q:=⟨_,rfl⟩
 have hXB:X<B0:=by rw [← hB0];exact xiQ hx0
 have HB0:=xaQ hB0
 have HCT:=xaQ hc
 have hlk:=ywQ (D++[B])
 rw [List.length_append,List.length_cons,List.length_nil] at hlk
 have HLT:=xaQ hlt
 have hdl:D.length≤498:=by omega
 have hwP:w.heap.size≤P+1:=by omega
 have HBB:=xaQ (And.intro hBk hBf)
 obtain ⟨i0,hi0,hz0⟩:=Option.map_eq_some_iff.1 Tryz.info31
 simp only [Prod.mk.injEq] at hz0
 obtain ⟨hz1,hz2,hz3⟩:=hz0
 have HI:=xaQ (show Tryz.prog.info? 31=some i0∧i0.zero=some (.agg #[.int .i64 0,.string ByteArray.empty,.int .i64 0,.slice none 0 0])∧i0.size=4∧i0.bytes=56 from ⟨hi0,hz1,hz2,hz3⟩)
 clear hi0 hz1 hz2 hz3
 have HW2:=xaQ hw2
 clear hk B1 B2 h0 hx0 hB0 hw2 hc hBk hBf hD hDf hlt
 go_enter Tryz.func41,Tryz.ntmps41
 go_wp2
 first | rw [hw1] | skip
 first | rw [hP] | skip
 first | rw [HPX.out] | skip
 first | rw [HW2.out] | skip
 clear hw1 hP HW2 hX p0 p1 p2 p3 q0 q1 q2 q3
 go_loopg [4] D.length (fun g s4 wr=>∃ (i:Nat) (els:List A) (sa:Option Addr) (sc:Nat),i+g=D.length∧s4=.int .i64 i∧OwnA wr B0 (.slice sa els.length sc) els∧xmQ els=D.take i∧wr.heap[X]?=some (.cells #[.int .i64 40,.string ⟨#[]⟩,.int .i64 0,.slice sa els.length sc] 31 (0,0))∧Below w1.heap.size w1 wr∧B0≤wr.heap.size)
 case atStart=>exact ⟨0,[],none,0,by omega,rfl,OwnA.nil _ _,rfl,HX0.out,HBX.out,Nat.le_of_eq HB0.out.symm⟩
 case round =>
  obtain ⟨i,els,sa,sc,hig,rfl,hoa,her,hX,hbel,hBw⟩:=hrel
  have HOA:=xaQ hoa
  have HER:=xaQ her
  have HXW:=xaQ hX
  have HBW:=xaQ hbel
  obtain ⟨q0,q1,q2,q3⟩:=HFP.out _ hbel
  have hcc:=HCT.out
  have hel:els.length≤1000:=by
   rw [← xzQ,her,List.length_take]
   omega
  clear hoa her hcc
  obtain ⟨d0,d1,d2,d3,d4,d5,d6,d7⟩:=xcQ hX
  have HXN:=xaQ (show wr.drew.heap[X]?=_ from hX)
  have hpn:X<wr.drew.heap.size:=xiQ hX
  have HB9:Hid (Below wr.heap.size wr wr.drew):=xaQ (Below.refl _ _).drew
  by_cases hil:i<D.length
  ·obtain ⟨x,hx⟩:∃ x,D[i]?=some x:=⟨_,List.getElem?_eq_getElem hil⟩
   have hx2:(D++[B])[i]?=some x:=by rw [List.getElem?_append_left hil];exact hx
   have HPT:=xaQ (x4Q hx)
   have hcx:=cnt_in (List.mem_of_getElem? hx2)
   obtain ⟨xk,xs,xm,xkk⟩:=x
   obtain ⟨b,o,xa,xc,rfl,c0,c1,c2,c3,hxs,hxn,hxk⟩:=yqQ HK.out hbel hx2
   have hcc:=HCT.out
   simp only [cnt] at hcx
   have HCL:=xaQ (fun W (hW:Below wr.heap.size wr W)=>sCopy_any (.node xk xs xm xkk) hxs (by omega) xa xc W (hxk.below hW))
   have i0':(0:Int)≤(i:Int):=by omega
   have i1:(i:Int)<(D.length:Int):=by omega
   have i2:(i:Int)<(D.length:Int)+1:=by omega
   obtain ⟨g1,rfl⟩:∃ q,gk=q+1:=⟨gk - 1,by omega⟩
   have w3:IntKind.i64.wrap ((i:Int)+1)=(i:Int)+1:=IntWalk.i64_in _ (by omega)
   clear hx hx2 hbel hX hxn hxk hxs hcx hcc
   go_wp2_with fail
   go_region_law (first | (go_simp;go_at_call 67;refine (HCL.out _ HB9.out).mono ?_;rintro e wn ⟨x1,rfl,hxe,hxm,hbn⟩;obtain ⟨zk,zs,zm,za,zc,zkk⟩:=x1;simp only [A.val];have HXN:=xaQ ((hbn.block X hpn).trans HXN.out);have HB9:=xaQ (xbQ HB9.out hbn);have hpn:=xiQ HXN.out;obtain ⟨e0,e1,e2,e3,e4,e5,e6,e7⟩:=xcQ HXN.out;have OA:=xaQ (HOA.out.below HB9.out);have OW:=xaQ (OA.out.own.alloc (.cells #[.int .i64 zk,.string zs,.int .i64 zm,.slice za zkk.length zc] 31));have HM1:=xaQ (And.intro hxe hxm);clear hxe hxm hbn) | (refine step_append_lies _ (by rfl) _ _ _ (by rfl) B0 31 i0 _ 4 56 Tryz.underlying29 HI.out.1 HI.out.2.1 HI.out.2.2.1 HI.out.2.2.2 rfl (by decide) _ _ _ (by rfl) OW.out ⟨wn.heap.size,0,none⟩ 1 1 [.int .i64 zk,.string zs,.int .i64 zm,.slice za zkk.length zc] (by rfl) (by rfl) (World.news_of_block (heap_alloc_new wn _)) (fun u hu=>by simp at hu;rcases hu with rfl | rfl | rfl | rfl <;> rfl) (by decide) (by unfold maxLen;omega) (by omega) (by have:=HB9.out.size;simp;omega) (wn.heap.size+1) (by simp) ?_;intro g cq w4 hown hgrow hat hlt4;have K4:=(hgrow.block X (by simp;omega) (fun e=>by have:=(OA.out.own.lt X e.symm).1;omega)).trans ((Lib.alloc_old wn _ _ hpn).trans HXN.out);have HAP:=xaQ (And.intro hown (And.intro hgrow hat));clear e0 e1 e2 e3 e4 e5 e6 e7;obtain ⟨l0,l1,l2,l3,l4,l5,l6,l7⟩:=xcQ K4;clear K4 hown hgrow hat OW))
   all_goals
    have hmt:=HM1.out.2.tree
    have HD:=xaQ (grow_done (w1:=w1) HOA.out HXW.out hXB hBw (Nat.le_of_eq HXE.out) HBW.out HB9.out (x1Q hmt.1) (NewL.one hmt.2.1) HAP.out.1 HAP.out.2.1 HAP.out.2.2 rfl)
    have HEE:Hid (xmQ (els++[A.node zk zs zm za zc zkk])=D.take (i+1)):=xaQ (by rw [xvQ,HER.out,HPT.out];simp only [xmQ,HM1.out.1])
    go_wp2
    go_roundg g1
    case rel=>exact ⟨i+1,_,_,_,by omega,by simp,HD.out.1,HEE.out,HD.out.2.1,HD.out.2.2.1,HD.out.2.2.2⟩
    case measure=>omega
  ·have hik:i=D.length:=by omega
   subst hik
   have j1:¬ (D.length:Int)<(D.length:Int):=by omega
   have j0:(0:Int)≤(D.length:Int):=by omega
   have j2:(D.length:Int)<(D.length:Int)+1:=by omega
   have hx2:(D++[B])[D.length]?=some B:=by rw [List.getElem?_append_right (Nat.le_refl _)];simp
   obtain ⟨hBk,hBf⟩:=HBB.out
   have hcx:=cnt_in (List.mem_of_getElem? hx2)
   have hpl:=sPlain_any B
   have hpk:=yEQ (t:=B) (by rw [hBk];decide)
   obtain ⟨TU,hTU⟩:∃ q,plnT B=q:=⟨_,rfl⟩
   rw [hTU] at hpk ⊢
   obtain ⟨xk,xs,xm,xkk⟩:=B
   obtain rfl:xk=30:=hBk
   obtain ⟨b,o,xa,xc,rfl,c0,c1,c2,c3,hxs,hxn,hxk⟩:=yqQ HK.out hbel hx2
   have hcc:=HCT.out
   have HCL:=xaQ (fun W (hW:Below wr.heap.size wr W)=>hpl (by decide) (by decide) hBf (by omega) xa xc W (hxk.below hW))
   rw [hpk] at HCL
   rw [List.take_length] at HER
   have hlt:=HLT.out
   have hwr:IntKind.i64.wrap (D.length:Int)=(D.length:Int):=IntWalk.i64_in _ (by omega)
   have HROW:Hid (∀ W,Below w1.heap.size w1 W→W.cell? ⟨b,o+D.length * 4,none⟩=some (.int .i64 30)∧W.cell? ⟨b,o+D.length * 4+1,none⟩=some (.string xs)∧W.cell? ⟨b,o+D.length * 4+2,none⟩=some (.int .i64 xm)∧W.cell? ⟨b,o+D.length * 4+3,none⟩=some (.slice xa xkk.length xc)):=xaQ (fun W hW=>by
    obtain ⟨b',o',xa',xc',hbo,hke⟩:=kid_at HK.out (Below.refl _ _) hx2
    cases hbo
    obtain ⟨e0,e1,e2,e3,_⟩:=hke W hW
    obtain ⟨_,_,_,f3,_⟩:=hke wr hbel
    rw [c3] at f3
    cases f3
    exact ⟨e0,e1,e2,e3⟩)
   have HBE:Hid (Below w1.heap.size w1 wr.drew):=xaQ HBW.out.drew
   have HBD:Hid (Below wr.heap.size wr wr.drew):=xaQ (Below.refl _ _).drew
   have hX1:w1.heap.size≤X:=Nat.le_of_eq HXE.out
   have hXl:X<wr.heap.size:=hpn
   clear hbel hX hx2 hBf hcx hpl hpk hxs hxn hxk hcc
   go_upto_region 6 with fail
   go_cut [] from 25 to 40 (fun v=>∃ (x:A) (g cq:Nat),x.erase=TU∧OwnA v B0 (.slice (some ⟨g,0,none⟩) (els++[x]).length cq) (els++[x])∧v.heap[X]?=some (.cells #[.int .i64 40,.string ⟨#[]⟩,.int .i64 0,.slice (some ⟨g,0,none⟩) (els++[x]).length cq] 31 (0,0))∧Below w1.heap.size w1 v∧B0≤v.heap.size)
   case first =>
    refine yRQ (fun zA0 L zA v=>∃ (zB:Nat→Bool) (zS:Nat→Value) (x:A) (gy:Nat) (yc:Nat) (bl:Nat) (g:Nat) (cq:Nat),L=#[zB 0,zB 1,zB 2,zB 3,zB 4,zB 5,zB 6,zB 7,zB 8,zB 9,zB 10,zB 11,zB 12,zB 13,zB 14,zB 15,zB 16]∧zA=pC zA0 25 41 [zS 25,zS 26,zS 27,zS 28,zS 29,zS 30,zS 31,zS 32,zS 33,zS 34,zS 35,zS 36,zS 37,zS 38,zS 39,zS 40]∧((zB 0=true→zS 25=.pointer (some ⟨X,3,none⟩))∧(zB 1=true→zS 26=.slice sa els.length sc)∧(zB 2=true→zS 27=.pointer (some ⟨P,3,none⟩))∧(zB 3=true→zS 28=.slice (some ⟨b,o,none⟩) (D.length+1) cc)∧(zB 4=true→zS 29=.pointer (some ⟨P,3,none⟩))∧(zB 5=true→zS 30=.slice (some ⟨b,o,none⟩) (D.length+1) cc)∧(zB 6=true→zS 31=.int .i64 ((D.length:Int)+1))∧(zB 7=true→zS 32=.int .i64 (D.length:Int))∧(zB 8=true→zS 33=.pointer (some ⟨b,o+D.length * 4,none⟩))∧(zB 9=true→zS 34=.agg #[.int .i64 30,.string xs,.int .i64 xm,.slice xa xkk.length xc])∧(zB 10=true→zS 35=.slice (some ⟨gy,0,none⟩) 1 yc)∧(zB 11=true→zS 36=.pointer (some ⟨gy,0,none⟩))∧(zB 12=true→zS 37=x.val)∧(zB 13=true→zS 38=.slice (some ⟨bl,0,none⟩) 1 1)∧(zB 14=true→zS 39=.slice (some ⟨g,0,none⟩) (els.length+1) cq)∧(zB 15=true→zS 40=.pointer (some ⟨X,3,none⟩)))∧AppI w1 wr v B0 X els sa sc TU (zB 1) (zB 10) (zB 11) (zB 12) (zB 13) (zB 14) (zB 16) x gy bl g cq) (by kernel_rfl) ?_ ?_ ?_
    ·exact ⟨fun _=>false,fun _=>undef,varA ⟨#[]⟩,0,0,0,0,0,rfl,by kernel_rfl,⟨fun e=>ft e,fun e=>ft e,fun e=>ft e,fun e=>ft e,fun e=>ft e,fun e=>ft e,fun e=>ft e,fun e=>ft e,fun e=>ft e,fun e=>ft e,fun e=>ft e,fun e=>ft e,fun e=>ft e,fun e=>ft e,fun e=>ft e,fun e=>ft e⟩,AppI.start HBE.out HBD.out⟩
    ·refine StepsI.cons rfl ?_ ?_
     ·rintro L zA v ⟨zB,zS,x,gy,yc,bl,g,cq,rfl,rfl,⟨j0,j1,j2,j3,j4,j5,j6,j7,j8,j9,j10,j11,j12,j13,j14,j15⟩,hW⟩ hL hm K hK
      have hb0:zB 0=false:=by simpa using hL
      clear hL hm
      simp only [pCE]
      go_simp
      exact hK.out _ _ ⟨fun zj=>if zj=0 then true else zB zj,fun zd=>if zd=25 then .pointer (some ⟨X,3,none⟩) else zS zd,x,gy,yc,bl,g,cq,rfl,by kernel_rfl,⟨fun _=>rfl,j1,j2,j3,j4,j5,j6,j7,j8,j9,j10,j11,j12,j13,j14,j15⟩,hW⟩
     refine StepsI.cons rfl ?_ ?_
     ·rintro L zA v ⟨zB,zS,x,gy,yc,bl,g,cq,rfl,rfl,⟨j0,j1,j2,j3,j4,j5,j6,j7,j8,j9,j10,j11,j12,j13,j14,j15⟩,hW⟩ hL hm K hK
      have hb1:zB 1=false:=by simpa using hL
      have hb0:zB 0=true:=by simpa using dp hm 0 (by kernel_rfl)
      have e0:zS 25=.pointer (some ⟨X,3,none⟩):=j0 hb0
      clear hL hm
      rw [hb1] at hW
      simp only [pCE]
      simp only [e0]
      have hpz:=hW.pre (hW.no1 rfl)
      obtain ⟨y0,y1,y2,y3,_⟩:=xcQ ((hpz.block X hXl).trans HXW.out)
      go_simp
      exact hK.out _ _ ⟨fun zj=>if zj=0 then true else if zj=1 then true else zB zj,fun zd=>if zd=26 then .slice sa els.length sc else if zd=25 then .pointer (some ⟨X,3,none⟩) else zS zd,x,gy,yc,bl,g,cq,by simp [hb0],by kernel_rfl,⟨fun _=>rfl,fun _=>rfl,j2,j3,j4,j5,j6,j7,j8,j9,j10,j11,j12,j13,j14,j15⟩,hW.s1⟩
     refine StepsI.cons rfl ?_ ?_
     ·rintro L zA v ⟨zB,zS,x,gy,yc,bl,g,cq,rfl,rfl,⟨j0,j1,j2,j3,j4,j5,j6,j7,j8,j9,j10,j11,j12,j13,j14,j15⟩,hW⟩ hL hm K hK
      have hb2:zB 2=false:=by simpa using hL
      clear hL hm
      simp only [pCE]
      go_simp
      exact hK.out _ _ ⟨fun zj=>if zj=2 then true else zB zj,fun zd=>if zd=27 then .pointer (some ⟨P,3,none⟩) else zS zd,x,gy,yc,bl,g,cq,rfl,by kernel_rfl,⟨j0,j1,fun _=>rfl,j3,j4,j5,j6,j7,j8,j9,j10,j11,j12,j13,j14,j15⟩,hW⟩
     refine StepsI.cons rfl ?_ ?_
     ·rintro L zA v ⟨zB,zS,x,gy,yc,bl,g,cq,rfl,rfl,⟨j0,j1,j2,j3,j4,j5,j6,j7,j8,j9,j10,j11,j12,j13,j14,j15⟩,hW⟩ hL hm K hK
      have hb3:zB 3=false:=by simpa using hL
      have hb2:zB 2=true:=by simpa using dp hm 2 (by kernel_rfl)
      have e2:zS 27=.pointer (some ⟨P,3,none⟩):=j2 hb2
      clear hL hm
      simp only [pCE]
      simp only [e2]
      obtain ⟨y0,y1,y2,y3⟩:=HFP.out _ hW.bel
      go_simp
      exact hK.out _ _ ⟨fun zj=>if zj=2 then true else if zj=3 then true else zB zj,fun zd=>if zd=28 then .slice (some ⟨b,o,none⟩) (D.length+1) cc else if zd=27 then .pointer (some ⟨P,3,none⟩) else zS zd,x,gy,yc,bl,g,cq,by simp [hb2],by kernel_rfl,⟨j0,j1,fun _=>rfl,fun _=>rfl,j4,j5,j6,j7,j8,j9,j10,j11,j12,j13,j14,j15⟩,hW⟩
     refine StepsI.cons rfl ?_ ?_
     ·rintro L zA v ⟨zB,zS,x,gy,yc,bl,g,cq,rfl,rfl,⟨j0,j1,j2,j3,j4,j5,j6,j7,j8,j9,j10,j11,j12,j13,j14,j15⟩,hW⟩ hL hm K hK
      have hb4:zB 4=false:=by simpa using hL
      clear hL hm
      simp only [pCE]
      go_simp
      exact hK.out _ _ ⟨fun zj=>if zj=4 then true else zB zj,fun zd=>if zd=29 then .pointer (some ⟨P,3,none⟩) else zS zd,x,gy,yc,bl,g,cq,rfl,by kernel_rfl,⟨j0,j1,j2,j3,fun _=>rfl,j5,j6,j7,j8,j9,j10,j11,j12,j13,j14,j15⟩,hW⟩
     refine StepsI.cons rfl ?_ ?_
     ·rintro L zA v ⟨zB,zS,x,gy,yc,bl,g,cq,rfl,rfl,⟨j0,j1,j2,j3,j4,j5,j6,j7,j8,j9,j10,j11,j12,j13,j14,j15⟩,hW⟩ hL hm K hK
      have hb5:zB 5=false:=by simpa using hL
      have hb4:zB 4=true:=by simpa using dp hm 4 (by kernel_rfl)
      have e4:zS 29=.pointer (some ⟨P,3,none⟩):=j4 hb4
      clear hL hm
      simp only [pCE]
      simp only [e4]
      obtain ⟨y0,y1,y2,y3⟩:=HFP.out _ hW.bel
      go_simp
      exact hK.out _ _ ⟨fun zj=>if zj=4 then true else if zj=5 then true else zB zj,fun zd=>if zd=30 then .slice (some ⟨b,o,none⟩) (D.length+1) cc else if zd=29 then .pointer (some ⟨P,3,none⟩) else zS zd,x,gy,yc,bl,g,cq,by simp [hb4],by kernel_rfl,⟨j0,j1,j2,j3,fun _=>rfl,fun _=>rfl,j6,j7,j8,j9,j10,j11,j12,j13,j14,j15⟩,hW⟩
     refine StepsI.cons rfl ?_ ?_
     ·rintro L zA v ⟨zB,zS,x,gy,yc,bl,g,cq,rfl,rfl,⟨j0,j1,j2,j3,j4,j5,j6,j7,j8,j9,j10,j11,j12,j13,j14,j15⟩,hW⟩ hL hm K hK
      have hb6:zB 6=false:=by simpa using hL
      have hb5:zB 5=true:=by simpa using dp hm 5 (by kernel_rfl)
      have e5:zS 30=.slice (some ⟨b,o,none⟩) (D.length+1) cc:=j5 hb5
      clear hL hm
      simp only [pCE]
      simp only [e5]
      go_simp
      exact hK.out _ _ ⟨fun zj=>if zj=5 then true else if zj=6 then true else zB zj,fun zd=>if zd=31 then .int .i64 ((D.length:Int)+1) else if zd=30 then .slice (some ⟨b,o,none⟩) (D.length+1) cc else zS zd,x,gy,yc,bl,g,cq,by simp [hb5],by kernel_rfl,⟨j0,j1,j2,j3,j4,fun _=>rfl,fun _=>rfl,j7,j8,j9,j10,j11,j12,j13,j14,j15⟩,hW⟩
     refine StepsI.cons rfl ?_ ?_
     ·rintro L zA v ⟨zB,zS,x,gy,yc,bl,g,cq,rfl,rfl,⟨j0,j1,j2,j3,j4,j5,j6,j7,j8,j9,j10,j11,j12,j13,j14,j15⟩,hW⟩ hL hm K hK
      have hb7:zB 7=false:=by simpa using hL
      have hb6:zB 6=true:=by simpa using dp hm 6 (by kernel_rfl)
      have e6:zS 31=.int .i64 ((D.length:Int)+1):=j6 hb6
      clear hL hm
      simp only [pCE]
      simp only [e6]
      go_simp
      exact hK.out _ _ ⟨fun zj=>if zj=6 then true else if zj=7 then true else zB zj,fun zd=>if zd=32 then .int .i64 (D.length:Int) else if zd=31 then .int .i64 ((D.length:Int)+1) else zS zd,x,gy,yc,bl,g,cq,by simp [hb6],by kernel_rfl,⟨j0,j1,j2,j3,j4,j5,fun _=>rfl,fun _=>rfl,j8,j9,j10,j11,j12,j13,j14,j15⟩,hW⟩
     refine StepsI.cons rfl ?_ ?_
     ·rintro L zA v ⟨zB,zS,x,gy,yc,bl,g,cq,rfl,rfl,⟨j0,j1,j2,j3,j4,j5,j6,j7,j8,j9,j10,j11,j12,j13,j14,j15⟩,hW⟩ hL hm K hK
      have hb8:zB 8=false:=by simpa using hL
      have hb3:zB 3=true:=by simpa using dp hm 3 (by kernel_rfl)
      have hb7:zB 7=true:=by simpa using dp hm 7 (by kernel_rfl)
      have e3:zS 28=.slice (some ⟨b,o,none⟩) (D.length+1) cc:=j3 hb3
      have e7:zS 32=.int .i64 (D.length:Int):=j7 hb7
      clear hL hm
      simp only [pCE]
      simp only [e3,e7]
      go_simp
      exact hK.out _ _ ⟨fun zj=>if zj=7 then true else if zj=3 then true else if zj=8 then true else zB zj,fun zd=>if zd=33 then .pointer (some ⟨b,o+D.length * 4,none⟩) else if zd=32 then .int .i64 (D.length:Int) else if zd=28 then .slice (some ⟨b,o,none⟩) (D.length+1) cc else zS zd,x,gy,yc,bl,g,cq,by simp [hb3,hb7],by kernel_rfl,⟨j0,j1,j2,fun _=>rfl,j4,j5,j6,fun _=>rfl,fun _=>rfl,j9,j10,j11,j12,j13,j14,j15⟩,hW⟩
     refine StepsI.cons rfl ?_ ?_
     ·rintro L zA v ⟨zB,zS,x,gy,yc,bl,g,cq,rfl,rfl,⟨j0,j1,j2,j3,j4,j5,j6,j7,j8,j9,j10,j11,j12,j13,j14,j15⟩,hW⟩ hL hm K hK
      have hb9:zB 9=false:=by simpa using hL
      have hb8:zB 8=true:=by simpa using dp hm 8 (by kernel_rfl)
      have e8:zS 33=.pointer (some ⟨b,o+D.length * 4,none⟩):=j8 hb8
      clear hL hm
      simp only [pCE]
      simp only [e8]
      obtain ⟨y0,y1,y2,y3⟩:=HROW.out _ hW.bel
      go_simp
      exact hK.out _ _ ⟨fun zj=>if zj=8 then true else if zj=9 then true else zB zj,fun zd=>if zd=34 then .agg #[.int .i64 30,.string xs,.int .i64 xm,.slice xa xkk.length xc] else if zd=33 then .pointer (some ⟨b,o+D.length * 4,none⟩) else zS zd,x,gy,yc,bl,g,cq,by simp [hb8],by kernel_rfl,⟨j0,j1,j2,j3,j4,j5,j6,j7,fun _=>rfl,fun _=>rfl,j10,j11,j12,j13,j14,j15⟩,hW⟩
     refine StepsI.cons rfl ?_ ?_
     ·rintro L zA v ⟨zB,zS,x,gy,yc,bl,g,cq,rfl,rfl,⟨j0,j1,j2,j3,j4,j5,j6,j7,j8,j9,j10,j11,j12,j13,j14,j15⟩,hW⟩ hL hm K hK
      have hb10:zB 10=false:=by simpa using hL
      have hb9:zB 9=true:=by simpa using dp hm 9 (by kernel_rfl)
      have e9:zS 34=.agg #[.int .i64 30,.string xs,.int .i64 xm,.slice xa xkk.length xc]:=j9 hb9
      clear hL hm
      rw [hb10] at hW
      simp only [pCE]
      simp only [e9]
      have hpz:=hW.pre (hW.no10 rfl)
      go_simp
      go_at_call 68
      refine (HCL.out _ hpz).mono ?_
      rintro e w8 ⟨ys,ya8,yc8,rfl,hye,hyo,hym,hbq⟩
      obtain ⟨x8,rfl,hxe⟩:=one_of hye
      have hxm:=hym _ rfl
      simp only [List.length_cons,List.length_nil,Nat.zero_add] at hyo ⊢
      obtain ⟨k8,s8,m8,a8,c8,kk8⟩:=x8
      obtain ⟨g8,rfl,hrow⟩:=OwnA.one hyo
      exact hK.out _ _ ⟨fun zj=>if zj=9 then true else if zj=10 then true else zB zj,fun zd=>if zd=35 then .slice (some ⟨g8,0,none⟩) 1 yc8 else if zd=34 then .agg #[.int .i64 30,.string xs,.int .i64 xm,.slice xa xkk.length xc] else zS zd,(A.node k8 s8 m8 a8 c8 kk8),g8,yc8,bl,g,cq,by simp [hb9],by kernel_rfl,⟨j0,j1,j2,j3,j4,j5,j6,j7,j8,fun _=>rfl,fun _=>rfl,fun e=>ft (hW.ord.2.2.2.2 e),fun e=>ft (hW.ord.2.2.2.2 (hW.ord.2.2.2.1 e)),j13,j14,j15⟩,hW.call hbq hxe hxm (hrow _ (Below.refl _ _))⟩
     refine StepsI.cons rfl ?_ ?_
     ·rintro L zA v ⟨zB,zS,x,gy,yc,bl,g,cq,rfl,rfl,⟨j0,j1,j2,j3,j4,j5,j6,j7,j8,j9,j10,j11,j12,j13,j14,j15⟩,hW⟩ hL hm K hK
      have hb11:zB 11=false:=by simpa using hL
      have hb10:zB 10=true:=by simpa using dp hm 10 (by kernel_rfl)
      have e10:zS 35=.slice (some ⟨gy,0,none⟩) 1 yc:=j10 hb10
      clear hL hm
      rw [hb11] at hW
      rw [hb10] at hW
      simp only [pCE]
      simp only [e10]
      go_simp
      exact hK.out _ _ ⟨fun zj=>if zj=10 then true else if zj=11 then true else zB zj,fun zd=>if zd=36 then .pointer (some ⟨gy,0,none⟩) else if zd=35 then .slice (some ⟨gy,0,none⟩) 1 yc else zS zd,x,gy,yc,bl,g,cq,by simp [hb10],by kernel_rfl,⟨j0,j1,j2,j3,j4,j5,j6,j7,j8,j9,fun _=>rfl,fun _=>rfl,j12,j13,j14,j15⟩,hW.s11⟩
     refine StepsI.cons rfl ?_ ?_
     ·rintro L zA v ⟨zB,zS,x,gy,yc,bl,g,cq,rfl,rfl,⟨j0,j1,j2,j3,j4,j5,j6,j7,j8,j9,j10,j11,j12,j13,j14,j15⟩,hW⟩ hL hm K hK
      have hb12:zB 12=false:=by simpa using hL
      have hb11:zB 11=true:=by simpa using dp hm 11 (by kernel_rfl)
      have e11:zS 36=.pointer (some ⟨gy,0,none⟩):=j11 hb11
      clear hL hm
      rw [hb12] at hW
      rw [hb11] at hW
      simp only [pCE]
      simp only [e11]
      obtain ⟨zk,zs,zm,za,zc,zkk⟩:=x
      obtain ⟨y0,y1,y2,y3⟩:=hW.row (hW.no12 rfl)
      go_simp
      exact hK.out _ _ ⟨fun zj=>if zj=11 then true else if zj=12 then true else zB zj,fun zd=>if zd=37 then (A.node zk zs zm za zc zkk).val else if zd=36 then .pointer (some ⟨gy,0,none⟩) else zS zd,(A.node zk zs zm za zc zkk),gy,yc,bl,g,cq,by simp [hb11],by kernel_rfl,⟨j0,j1,j2,j3,j4,j5,j6,j7,j8,j9,j10,fun _=>rfl,fun _=>rfl,j13,j14,j15⟩,hW.s12⟩
     refine StepsI.cons rfl ?_ ?_
     ·rintro L zA v ⟨zB,zS,x,gy,yc,bl,g,cq,rfl,rfl,⟨j0,j1,j2,j3,j4,j5,j6,j7,j8,j9,j10,j11,j12,j13,j14,j15⟩,hW⟩ hL hm K hK
      have hb13:zB 13=false:=by simpa using hL
      have hb12:zB 12=true:=by simpa using dp hm 12 (by kernel_rfl)
      have e12:zS 37=x.val:=j12 hb12
      clear hL hm
      rw [hb13] at hW
      rw [hb12] at hW
      simp only [pCE]
      simp only [e12]
      obtain ⟨zk,zs,zm,za,zc,zkk⟩:=x
      simp only [A.val]
      go_simp
      exact hK.out _ _ ⟨fun zj=>if zj=12 then true else if zj=13 then true else zB zj,fun zd=>if zd=38 then .slice (some ⟨v.heap.size,0,none⟩) 1 1 else if zd=37 then (A.node zk zs zm za zc zkk).val else zS zd,(A.node zk zs zm za zc zkk),gy,yc,v.heap.size,g,cq,by simp [hb12],by kernel_rfl,⟨j0,j1,j2,j3,j4,j5,j6,j7,j8,j9,j10,j11,fun _=>rfl,fun _=>rfl,j14,j15⟩,hW.lay⟩
     refine StepsI.cons rfl ?_ ?_
     ·rintro L zA v ⟨zB,zS,x,gy,yc,bl,g,cq,rfl,rfl,⟨j0,j1,j2,j3,j4,j5,j6,j7,j8,j9,j10,j11,j12,j13,j14,j15⟩,hW⟩ hL hm K hK
      have hb14:zB 14=false:=by simpa using hL
      have hb1:zB 1=true:=by simpa using dp hm 1 (by kernel_rfl)
      have hb13:zB 13=true:=by simpa using dp hm 13 (by kernel_rfl)
      have e1:zS 26=.slice sa els.length sc:=j1 hb1
      have e13:zS 38=.slice (some ⟨bl,0,none⟩) 1 1:=j13 hb13
      clear hL hm
      rw [hb14] at hW
      rw [hb1] at hW
      rw [hb13] at hW
      simp only [pCE]
      simp only [e1,e13]
      obtain ⟨zk,zs,zm,za,zc,zkk⟩:=x
      have hOA:=HOA.out.below (hW.pre rfl)
      have hlit:=hW.lit rfl rfl
      have hsv:=(hW.pre rfl).size
      rw [if_pos (by rfl)]
      refine wp_append_lies _ _ _ 29 rfl B0 31 i0 _ 4 56 Tryz.underlying29 HI.out.1 HI.out.2.1 HI.out.2.2.1 HI.out.2.2.2 rfl (by decide) (.slice sa els.length sc) els.length (xqQ els) rfl hOA.own ⟨bl,0,none⟩ 1 1 [.int .i64 zk,.string zs,.int .i64 zm,.slice za zkk.length zc] rfl rfl (World.news_of_block hlit) (fun u hu=>by simp at hu;rcases hu with rfl | rfl | rfl | rfl <;> rfl) (by decide) (by unfold maxLen;omega) (by omega) (by omega) v.heap.size rfl ?_
      intro gq cc2 w4 hown hgrow hat hlt4
      exact hK.out _ _ ⟨fun zj=>if zj=13 then true else if zj=1 then true else if zj=14 then true else zB zj,fun zd=>if zd=39 then .slice (some ⟨gq,0,none⟩) (els.length+1) cc2 else if zd=38 then .slice (some ⟨bl,0,none⟩) 1 1 else if zd=26 then .slice sa els.length sc else zS zd,(A.node zk zs zm za zc zkk),gy,yc,bl,gq,cc2,by simp [hb1,hb13],by kernel_rfl,⟨j0,fun _=>rfl,j2,j3,j4,j5,j6,j7,j8,j9,j10,j11,j12,fun _=>rfl,fun _=>rfl,j15⟩,hW.app HOA.out HXW.out hXB hBw (by omega) hown hgrow hat⟩
     refine StepsI.cons rfl ?_ ?_
     ·rintro L zA v ⟨zB,zS,x,gy,yc,bl,g,cq,rfl,rfl,⟨j0,j1,j2,j3,j4,j5,j6,j7,j8,j9,j10,j11,j12,j13,j14,j15⟩,hW⟩ hL hm K hK
      have hb15:zB 15=false:=by simpa using hL
      clear hL hm
      simp only [pCE]
      go_simp
      exact hK.out _ _ ⟨fun zj=>if zj=15 then true else zB zj,fun zd=>if zd=40 then .pointer (some ⟨X,3,none⟩) else zS zd,x,gy,yc,bl,g,cq,rfl,by kernel_rfl,⟨j0,j1,j2,j3,j4,j5,j6,j7,j8,j9,j10,j11,j12,j13,j14,fun _=>rfl⟩,hW⟩
     refine StepsI.cons rfl ?_ ?_
     ·rintro L zA v ⟨zB,zS,x,gy,yc,bl,g,cq,rfl,rfl,⟨j0,j1,j2,j3,j4,j5,j6,j7,j8,j9,j10,j11,j12,j13,j14,j15⟩,hW⟩ hL hm K hK
      have hb16:zB 16=false:=by simpa using hL
      have hb14:zB 14=true:=by simpa using dp hm 14 (by kernel_rfl)
      have hb15:zB 15=true:=by simpa using dp hm 15 (by kernel_rfl)
      have e14:zS 39=.slice (some ⟨g,0,none⟩) (els.length+1) cq:=j14 hb14
      have e15:zS 40=.pointer (some ⟨X,3,none⟩):=j15 hb15
      clear hL hm
      rw [hb16] at hW
      rw [hb14] at hW
      simp only [pCE]
      simp only [e14,e15]
      obtain ⟨y0,y1,y2,y3,y4,y5,y6,y7⟩:=xcQ (hW.xold rfl)
      go_simp
      exact hK.out _ _ ⟨fun zj=>if zj=15 then true else if zj=14 then true else if zj=16 then true else zB zj,fun zd=>if zd=40 then .pointer (some ⟨X,3,none⟩) else if zd=39 then .slice (some ⟨g,0,none⟩) (els.length+1) cq else zS zd,x,gy,yc,bl,g,cq,by simp [hb14,hb15],by kernel_rfl,⟨j0,j1,j2,j3,j4,j5,j6,j7,j8,j9,j10,j11,j12,j13,fun _=>rfl,fun _=>rfl⟩,hW.put hXB hX1⟩
     exact StepsI.nil (by kernel_rfl)
    ·rintro L zA v ⟨zB,zS,x,gy,yc,bl,g,cq,rfl,rfl,⟨j0,j1,j2,j3,j4,j5,j6,j7,j8,j9,j10,j11,j12,j13,j14,j15⟩,hW⟩ hr
     have hu:=all_up (by kernel_rfl) (N:=17) (by kernel_rfl) hr
     have hb0:zB 0=true:=by simpa using hu 0 (by decide)
     have hb1:zB 1=true:=by simpa using hu 1 (by decide)
     have hb2:zB 2=true:=by simpa using hu 2 (by decide)
     have hb3:zB 3=true:=by simpa using hu 3 (by decide)
     have hb4:zB 4=true:=by simpa using hu 4 (by decide)
     have hb5:zB 5=true:=by simpa using hu 5 (by decide)
     have hb6:zB 6=true:=by simpa using hu 6 (by decide)
     have hb7:zB 7=true:=by simpa using hu 7 (by decide)
     have hb8:zB 8=true:=by simpa using hu 8 (by decide)
     have hb9:zB 9=true:=by simpa using hu 9 (by decide)
     have hb10:zB 10=true:=by simpa using hu 10 (by decide)
     have hb11:zB 11=true:=by simpa using hu 11 (by decide)
     have hb12:zB 12=true:=by simpa using hu 12 (by decide)
     have hb13:zB 13=true:=by simpa using hu 13 (by decide)
     have hb14:zB 14=true:=by simpa using hu 14 (by decide)
     have hb15:zB 15=true:=by simpa using hu 15 (by decide)
     have hb16:zB 16=true:=by simpa using hu 16 (by decide)
     have e0:zS 25=.pointer (some ⟨X,3,none⟩):=j0 hb0
     have e1:zS 26=.slice sa els.length sc:=j1 hb1
     have e2:zS 27=.pointer (some ⟨P,3,none⟩):=j2 hb2
     have e3:zS 28=.slice (some ⟨b,o,none⟩) (D.length+1) cc:=j3 hb3
     have e4:zS 29=.pointer (some ⟨P,3,none⟩):=j4 hb4
     have e5:zS 30=.slice (some ⟨b,o,none⟩) (D.length+1) cc:=j5 hb5
     have e6:zS 31=.int .i64 ((D.length:Int)+1):=j6 hb6
     have e7:zS 32=.int .i64 (D.length:Int):=j7 hb7
     have e8:zS 33=.pointer (some ⟨b,o+D.length * 4,none⟩):=j8 hb8
     have e9:zS 34=.agg #[.int .i64 30,.string xs,.int .i64 xm,.slice xa xkk.length xc]:=j9 hb9
     have e10:zS 35=.slice (some ⟨gy,0,none⟩) 1 yc:=j10 hb10
     have e11:zS 36=.pointer (some ⟨gy,0,none⟩):=j11 hb11
     have e12:zS 37=x.val:=j12 hb12
     have e13:zS 38=.slice (some ⟨bl,0,none⟩) 1 1:=j13 hb13
     have e14:zS 39=.slice (some ⟨g,0,none⟩) (els.length+1) cq:=j14 hb14
     have e15:zS 40=.pointer (some ⟨X,3,none⟩):=j15 hb15
     rw [hb1] at hW
     rw [hb10] at hW
     rw [hb11] at hW
     rw [hb12] at hW
     rw [hb13] at hW
     rw [hb14] at hW
     rw [hb16] at hW
     clear hu hr j0 j1 j2 j3 j4 j5 j6 j7 j8 j9 j10 j11 j12 j13 j14 j15
     simp only [pCE]
     simp only [e0,e1,e2,e3,e4,e5,e6,e7,e8,e9,e10,e11,e12,e13,e14,e15]
     clear e0 e1 e2 e3 e4 e5 e6 e7 e8 e9 e10 e11 e12 e13 e14 e15
     clear hb0 hb1 hb2 hb3 hb4 hb5 hb6 hb7 hb8 hb9 hb10 hb11 hb12 hb13 hb14 hb15 hb16
     clear zB zS
     go_wp2_with fail
     go_meet
     exact ⟨x,g,cq,hW.done⟩
   case rest =>
    obtain ⟨x,g,cq,hxe,hd1,hd2,hd3,hd4⟩:=hcut
    obtain ⟨m0,m1,m2,m3,_⟩:=xcQ hd2
    have hR:=(hd3.block (P+1) hlt).trans H0.out
    obtain ⟨t0,t1,t2,t3,t4,t5,t6,t7⟩:=xcQ hR
    have HRR:=xaQ hR
    have hb1:=hd3.size
    have hm:(A.node 40 ⟨#[]⟩ 0 (some ⟨g,0,none⟩) cq (els++[x])).mine wc B0:=⟨hd1,by decide,by simp [maxLen];omega⟩
    have HMM:=xaQ hm
    have HD3:=xaQ hd3
    have HEE:Hid (xmQ (els++[x])=D++[TU]):=xaQ (by rw [xvQ,HER.out];simp only [xmQ,hxe])
    clear hd1 hd2 hd3 hR hm hxe
    go_wp2
    obtain ⟨q0,q1,q2,q3⟩:=xhQ HRR.out (.int .i64 40) (.string ⟨#[]⟩) (.int .i64 0) (.slice (some ⟨g,0,none⟩) (els.length+1) cq)
    have hme:=HXE.out
    have hb0:=HB.out.size
    refine bodyPost_ret (v:=(A.node 40 ⟨#[]⟩ 0 (some ⟨g,0,none⟩) cq (els++[x])).val) (by simp [results,Tryz.results41,go_sem,q0,q1,q2,q3,A.val]) rfl ⟨_,rfl,?_,?_,?_⟩
    ·simp only [A.erase,HEE.out]
    ·exact (HMM.out.put4 (by omega) _ _ _ _).mono (by omega)
    ·exact xUQ (xbQ HB.out HD3.out) (by omega) _ _ _ _
end Go.Proofs.YtocbgbkdlfkjjaaGreatDoor
