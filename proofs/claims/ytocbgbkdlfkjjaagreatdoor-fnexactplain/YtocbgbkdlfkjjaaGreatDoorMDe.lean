/- ROWS OF TREES: what the specification's l03Plain answers. -/
import Derived.Test.YtocbgbkdlfkjjaaGreatDoorMCc
import Derived.Test.YtocbgbkdlfkjjaaGreatDoorMCg
set_option maxRecDepth 100000
namespace Go.Proofs.YtocbgbkdlfkjjaaGreatDoor
open Go.RowKit
open Pl
def RPost (L:List T) (w:World) (e:Ending) (w':World):Prop:=∃ (els:List A) (sa:Option Addr) (sc:Nat),e=.returned (.slice sa els.length sc)∧xmQ els=L∧OwnA w' w.heap.size (.slice sa els.length sc) els∧(∀ x,els=[x]→x.mine w' w.heap.size)∧Below w.heap.size w w'
def PlainS (t:T):Prop:=match t with
 | .node k s m kk=>21≤k→k≤30→xeQ (.node k s m kk)=true→cnt (.node k s m kk)≤500→∀ (a:Option Addr) (cc:Nat) (w:World),Kids w 0 a kk→Calls Tryz.prog 68 #[.agg #[.int .i64 k,.string s,.int .i64 m,.slice a kk.length cc]] w (RPost (plnK (.node k s m kk)) w)
theorem cells_one (els:List A):∀ u∈xqQ els,u.oneCell'=true:=by
 intro u hu
 unfold xqQ at hu
 obtain ⟨x,_,hx⟩:=List.mem_flatMap.1 hu
 obtain ⟨k,s,m,a,c,kk⟩:=x
 simp only [A.cells,List.mem_cons,List.not_mem_nil,or_false] at hx
 rcases hx with rfl | rfl | rfl | rfl <;> rfl
theorem OwnA.row {w:World} {B:Nat} {sa:Option Addr} {sc:Nat} {els:List A} (h:OwnA w B (.slice sa els.length sc) els) (h0:0<els.length):∃ g,sa=some ⟨g,0,none⟩∧B≤g∧g<w.heap.size∧∀ W,Below w.heap.size w W→∀ (j:Nat) (u:Value),(xqQ els)[j]?=some u→W.cell? ((⟨g,0,none⟩:Addr).add j)=some u:=by
 rcases h.own.2 with ⟨e,hz⟩ | ⟨g,cap,cur,e,hb,hg,h1,h2,h3,h4⟩
 ·omega
 ·simp at e
  obtain ⟨rfl,rfl⟩:=e
  have hl:=xiQ hg
  refine ⟨g,rfl,hb,hl,fun W hW j u hu=>World.news_of_block ((hW.block g hl).trans hg) j u ?_⟩
  rw [← h4,List.getElem?_take] at hu
  split at hu
  ·simpa using hu
  ·cases hu
theorem OwnA.one {w:World} {B:Nat} {sa:Option Addr} {sc c:Nat} {k m:Int} {s:ByteArray} {a:Option Addr} {kk:List A} (h:OwnA w B (.slice sa 1 sc) [.node k s m a c kk]):∃ g,sa=some ⟨g,0,none⟩∧∀ W,Below w.heap.size w W→W.cell? ⟨g,0,none⟩=some (.int .i64 k)∧W.cell? ⟨g,1,none⟩=some (.string s)∧W.cell? ⟨g,2,none⟩=some (.int .i64 m)∧W.cell? ⟨g,3,none⟩=some (.slice a kk.length c):=by
 obtain ⟨g,rfl,_,_,hr⟩:=OwnA.row (els:=[.node k s m a c kk]) h (by simp)
 refine ⟨g,rfl,fun W hW=>?_⟩
 have h0:=hr W hW 0 _ rfl
 have h1:=hr W hW 1 _ rfl
 have h2:=hr W hW 2 _ rfl
 have h3:=hr W hW 3 _ rfl
 simp only [Addr.add,Nat.zero_add] at h0 h1 h2 h3
 exact ⟨h0,h1,h2,h3⟩
theorem OwnA.pushS {w w3 w4:World} {B g c2:Nat} {sa:Option Addr} {sc:Nat} {els xs:List A} (h:OwnA w B (.slice sa els.length sc) els) (hb:Below w.heap.size w w3) (hx:SitsL w3 xs) (hn:NewL w.heap.size xs) (hB:B≤w.heap.size)
 (hown:w4.ownsRow B 31 4 (.slice (some ⟨g,0,none⟩) (els.length+xs.length) c2) (els.length+xs.length) (xqQ els++xqQ xs)) (hgrow:w3.grownBy w4 (Value.slice sa els.length sc).ownBlock)
 (hat:(Value.slice sa els.length sc).ownBlock=some g∨g=w3.heap.size) :
 OwnA w4 B (.slice (some ⟨g,0,none⟩) (els++xs).length c2) (els++xs):=by
 have h3:=h.below hb
 have lx:=SitsL.lt hx
 have le:=SitsL.lt h3.sits
 have le0:=SitsL.lt h.sits
 have hol:=h.own.lt
 have keep:∀ q,q<w3.heap.size→(∀ g',(Value.slice sa els.length sc).ownBlock=some g'→q≠g')→w4.heap[q]?=w3.heap[q]?:=fun q hq hne=>hgrow.block q hq (fun e=>hne q e.symm rfl)
 refine ⟨?_,?_,?_,?_⟩
 ·rw [List.length_append,ziQ]
  exact hown
 ·refine sitsL_append (h3.sits.stay fun q hq=>?_) (hx.stay fun q hq=>?_)
  ·rw [keep q (le q hq) (fun g' e=>fun e2=>h.apart g' e (e2 ▸ hq))]
  ·rw [keep q (lx q hq) (fun g' e=>by have:=(hol g' e).2;have:=hn.2 q hq;omega)]
 ·exact NewL.append h.new le0 hn hB
 ·intro g' e hq
  simp [Value.ownBlock] at e
  subst e
  rw [yeQ,List.mem_append] at hq
  rcases hat with hat | hat
  ·rcases hq with hq | hq
   ·exact h.apart g hat hq
   ·have:=(hol g hat).2
    have:=hn.2 g hq
    omega
  ·rcases hq with hq | hq
   ·have:=le g hq;omega
   ·have:=lx g hq;omega
theorem grow_doneS {w1 wr w3 w4:World} {B0 X g c2 sc:Nat} {sa:Option Addr} {els xs:List A} {k m:Int} {s:ByteArray} (h:OwnA wr B0 (.slice sa els.length sc) els) (hX:wr.heap[X]?=some (.cells #[.int .i64 k,.string s,.int .i64 m,.slice sa els.length sc] 31 (0,0))) (hXB:X<B0) (hB:B0≤wr.heap.size) (hX1:w1.heap.size≤X)
 (hbel:Below w1.heap.size w1 wr) (hb:Below wr.heap.size wr w3) (hx:SitsL w3 xs) (hn:NewL wr.heap.size xs)
 (hown:w4.ownsRow B0 31 4 (.slice (some ⟨g,0,none⟩) (els.length+xs.length) c2) (els.length+xs.length) (xqQ els++xqQ xs)) (hgrow:w3.grownBy w4 (Value.slice sa els.length sc).ownBlock) (hat:(Value.slice sa els.length sc).ownBlock=some g∨g=w3.heap.size) :
 OwnA (w4.setCell ⟨X,3,none⟩ (.slice (some ⟨g,0,none⟩) (els.length+xs.length) c2)) B0 (.slice (some ⟨g,0,none⟩) (els++xs).length c2) (els++xs)∧(w4.setCell ⟨X,3,none⟩ (.slice (some ⟨g,0,none⟩) (els.length+xs.length) c2)).heap[X]?=some (.cells #[.int .i64 k,.string s,.int .i64 m,.slice (some ⟨g,0,none⟩) (els++xs).length c2] 31 (0,0)) ∧
 Below w1.heap.size w1 (w4.setCell ⟨X,3,none⟩ (.slice (some ⟨g,0,none⟩) (els.length+xs.length) c2))∧B0≤(w4.setCell ⟨X,3,none⟩ (.slice (some ⟨g,0,none⟩) (els.length+xs.length) c2)).heap.size:=by
 have hp:=h.pushS hb hx hn hB hown hgrow hat
 have hol:=h.own.lt
 have hxl:=xiQ hX
 have hz:=hb.size
 have k4:w4.heap[X]?=some (.cells #[.int .i64 k,.string s,.int .i64 m,.slice sa els.length sc] 31 (0,0)):=(hgrow.block X (by omega) (fun e=>by have:=(hol X e.symm).1;omega)).trans ((hb.block X hxl).trans hX)
 have hset:w4.grownBy (w4.setCell ⟨X,3,none⟩ (.slice (some ⟨g,0,none⟩) (els.length+xs.length) c2)) (some X):=⟨rfl,rfl,rfl,by simp [World.setCell],fun q _ hq=>Below.heap_setCell _ _ _ _ (fun e=>hq (by rw [e]))⟩
 have b3:=xbQ hbel hb
 have hb1:=hbel.size
 have b4:=b3.grown hgrow b3.size (fun q e=>by have:=(hol q e).1;omega)
 refine ⟨hp.grown hset (fun p e=>by cases e;exact hXB),?_,b4.setCell (p:=⟨X,3,none⟩) hX1 _,?_⟩
 ·rw [heap_setCell_same w4 X 3 _ 31 _ k4,List.length_append];rfl
 ·have:=hgrow.size
  simp [World.setCell] at this ⊢
  omega
theorem plnK_len {t:T} (h:xeQ t=true):0<(plnK t).length∧(plnK t).length≤2:=by
 obtain ⟨k,s,m,kk⟩:=t
 by_cases e:k=26
 ·subst e
  obtain ⟨a,b,c,rfl,_⟩:=formed_for h
  rw [plnK_for]
  simp
 ·rw [yEQ (t:=.node k s m kk) e]
  simp
theorem mkOne {w w':World} {n b:Nat} {xs:List A} (hs:SitsL w xs) (hb:Below w.heap.size w w') (hB:w'.heap[b]?=some (.cells (xqQ xs).toArray 31 (0,0))) (hge:w.heap.size≤b) (hn:NewL n xs) (hle:n≤w.heap.size) (hl:xs.length≤maxLen):OwnA w' n (.slice (some ⟨b,0,none⟩) xs.length xs.length) xs :=
 (yUQ (k:=0) (m:=0) (s:=⟨#[]⟩) hs hb hB hge hn hle (by decide) hl).1
theorem other_kid {k m:Int} {s:ByteArray} {kk:List T} (hf:xeQ (.node k s m kk)=true) (h0:21≤k) (h1:k≤30) (h26:k≠26) (h30:k≠30) {t:T} (ht:t∈kk):xdQ t=30∨(plnK t=[t]):=by
 obtain ⟨j,hj⟩:=List.getElem?_of_mem ht
 have h:=(xnQ hf).2.2 j t hj
 simp only [Bool.and_eq_true] at h
 obtain ⟨ha,hb⟩:=h
 have one:∀ lo hi,betw (xdQ t) lo hi=true→(1≤lo∧hi≤8∨11≤lo∧hi≤16)→plnK t=[t]:=fun lo hi hx hr=>by
  have:=x8Q hx
  rw [yEQ (by omega),good_pln t ⟨hb,by omega⟩]
 unfold kidI at ha
 split at ha
 ·split at ha
  ·exact .inr (one _ _ ha (by omega))
  ·exact .inl (by simpa using ha)
 ·rw [if_neg (by omega),if_neg (by omega)] at ha
  exact .inr (one _ _ ha (by omega))
theorem block_kid {m:Int} {s:ByteArray} {kk:List T} (hf:xeQ (.node 30 s m kk)=true) {t:T} (ht:t∈kk):21≤xdQ t∧xdQ t≤30:=by
 obtain ⟨j,hj⟩:=List.getElem?_of_mem ht
 have h:=(xnQ hf).2.2 j t hj
 simp only [Bool.and_eq_true] at h
 have ha:=h.1
 unfold kidI at ha
 simp at ha
 have:=x8Q ha
 omega
set_option maxHeartbeats 6400000 in
theorem plainS_block (s:ByteArray) (m:Int) (kk:List T) (IH:∀ t∈kk,PlainS t):PlainS (.node 30 s m kk):=by
 intro _ _ hf hc a cc w hk
 have hs:=yLQ (xnQ hf).1
 have B1:Below w.heap.size w (w.alloc (.cells #[.int .i64 30,.string s,.int .i64 m,.slice a kk.length cc] 31)):=(Below.refl w.heap.size w).alloc (Nat.le_refl _) _
 have F1:=Four.new w 30 s m a kk.length cc 31
 obtain ⟨P,hP⟩:∃ q,w.heap.size=q:=⟨_,rfl⟩
 obtain ⟨w1,hw1⟩:∃ q,w.alloc (.cells #[.int .i64 30,.string s,.int .i64 m,.slice a kk.length cc] 31)=q:=⟨_,rfl⟩
 rw [hw1] at F1 B1
 rw [hP] at F1
 have HFP:Hid (∀ W,Below w1.heap.size w1 W→Four W P 30 s m a kk.length cc):=xaQ (fun W hW=>F1.below hW)
 obtain ⟨p0,p1,p2,p3⟩:=F1
 have h0:=heap_alloc_new w1 (.cells #[.int .i64 30,.string s,.int .i64 m,.slice none 0 0] 31)
 have B2:Below w1.heap.size w1 (w1.alloc (.cells #[.int .i64 30,.string s,.int .i64 m,.slice none 0 0] 31)):=(Below.refl _ _).alloc (Nat.le_refl _) _
 obtain ⟨q0,q1,q2,q3⟩:=HFP.out _ B2
 obtain ⟨X,hX⟩:∃ q,w1.heap.size=q:=⟨_,rfl⟩
 obtain ⟨w2,hw2⟩:∃ q,w1.alloc (.cells #[.int .i64 30,.string s,.int .i64 m,.slice none 0 0] 31)=q:=⟨_,rfl⟩
 rw [hw2] at h0 B2
 rw [hX] at h0
 have HBX:=xaQ B2
 have HX0:=xaQ h0
 have HK:=xaQ (hk.below B1)
 have HB:=xaQ B1
 have HXE:=xaQ hX
 obtain ⟨i0,hi0,hz0⟩:=Option.map_eq_some_iff.1 Tryz.info31
 simp only [Prod.mk.injEq] at hz0
 obtain ⟨hz1,hz2,hz3⟩:=hz0
 have HI:=xaQ (show Tryz.prog.info? 31=some i0∧i0.zero=some (.agg #[.int .i64 0,.string ByteArray.empty,.int .i64 0,.slice none 0 0])∧i0.size=4∧i0.bytes=56 from ⟨hi0,hz1,hz2,hz3⟩)
 clear hi0 hz1 hz2 hz3
 obtain ⟨B0,hB0⟩:∃ q,w2.heap.size=q:=⟨_,rfl⟩
 have hXB:X<B0:=by rw [← hB0];exact xiQ h0
 have HB0:=xaQ hB0
 have HIH:=xaQ IH
 have HFM:=xaQ hf
 have hcs:cnts kk≤499:=by simp only [cnt] at hc;omega
 have HCT:=xaQ hcs
 have hlk:=ywQ kk
 clear IH hf hc hk B1 B2 h0 hB0
 have HW2:=xaQ hw2
 clear hw2
 go_enter Tryz.func68,Tryz.ntmps68
 go_wp2
 first | rw [HW2.out] | skip
 clear hw1 hP HW2 hX p0 p1 p2 p3 q0 q1 q2 q3
 go_loopg [4] kk.length (fun g s4 wr=>∃ (i:Nat) (els:List A) (sa:Option Addr) (sc:Nat),i+g=kk.length∧s4=.int .i64 i∧OwnA wr B0 (.slice sa els.length sc) els∧xmQ els=plnL (kk.take i)∧wr.heap[X]?=some (.cells #[.int .i64 30,.string s,.int .i64 m,.slice sa els.length sc] 31 (0,0))∧Below w1.heap.size w1 wr∧B0≤wr.heap.size)
 case atStart=>exact ⟨0,[],none,0,by omega,rfl,OwnA.nil _ _,rfl,HX0.out,HBX.out,Nat.le_of_eq HB0.out.symm⟩
 case round =>
  obtain ⟨i,els,sa,sc,hig,rfl,hoa,her,hX,hbel,hBw⟩:=hrel
  have HOA:=xaQ hoa
  have HER:=xaQ her
  have HXW:=xaQ hX
  have HBW:=xaQ hbel
  obtain ⟨q0,q1,q2,q3⟩:=HFP.out _ hbel
  have hel:els.length≤3992:=by
   have h1:=plnL_len kk i
   rw [← her,xzQ] at h1
   have:=HCT.out
   omega
  clear hoa her
  by_cases hil:i<kk.length
  ·obtain ⟨x,hx⟩:∃ x,kk[i]?=some x:=⟨_,List.getElem?_eq_getElem hil⟩
   have hmem:=List.mem_of_getElem? hx
   have hp1:=HIH.out x hmem
   have hfx:=zaQ HFM.out hmem
   have hkx:=block_kid HFM.out hmem
   have hcx:cnt x≤500:=by have:=cnt_in hmem;have:=HCT.out;omega
   have HPT:=xaQ (plnL_take hx)
   have hpl:=plnK_len hfx
   obtain ⟨xk,xs,xm,xkk⟩:=x
   obtain ⟨TT,hTT⟩:∃ q,plnK (.node xk xs xm xkk)=q:=⟨_,rfl⟩
   obtain ⟨b,o,xa,xc,rfl,c0,c1,c2,c3,hxs,hxn,hxk⟩:=yqQ HK.out hbel hx
   have HKX:=xaQ hxk
   have HCL:=xaQ (fun W (hW:Below wr.heap.size wr W)=>hp1 hkx.1 hkx.2 hfx hcx xa xc W (HKX.out.below hW))
   rw [hTT] at HCL HPT hpl
   have i0':(0:Int)≤(i:Int):=by omega
   have i1:(i:Int)<(kk.length:Int):=by omega
   obtain ⟨g1,rfl⟩:∃ q,gk=q+1:=⟨gk - 1,by omega⟩
   have w3:IntKind.i64.wrap ((i:Int)+1)=(i:Int)+1:=IntWalk.i64_in _ (by omega)
   obtain ⟨d0,d1,d2,d3,d4,d5,d6,d7⟩:=xcQ hX
   have HPL:Hid (∀ ys:List A,xmQ ys=TT→0<ys.length∧ys.length≤2):=xaQ (fun ys e=>by rw [← xzQ,e];exact hpl)
   have HXN:=xaQ (show wr.drew.heap[X]?=_ from hX)
   have hpn:X<wr.drew.heap.size:=xiQ hX
   have HB9:Hid (Below wr.heap.size wr wr.drew):=xaQ (Below.refl _ _).drew
   clear hx hbel hX hxs hxn hxk hp1 hfx hkx hcx hpl hTT
   go_wp2_with fail
   go_region_law (first | (go_simp;go_at_call 68;refine (HCL.out _ HB9.out).mono ?_;rintro e wn ⟨ys,ya,yc,rfl,hye,hyo,_,hbn⟩;obtain ⟨hy0,hy2⟩:=HPL.out _ hye;obtain ⟨gy,rfl,_,_,hnw⟩:=hyo.row hy0;have HNW:=xaQ (hnw _ (Below.refl _ _));have HXN:=xaQ ((hbn.block X hpn).trans HXN.out);have HB9:=xaQ (xbQ HB9.out hbn);have hpn:=xiQ HXN.out;obtain ⟨e0,e1,e2,e3,e4,e5,e6,e7⟩:=xcQ HXN.out;have OA:=xaQ (HOA.out.below HB9.out);have HM1:=xaQ (And.intro hye hyo);clear hye hyo hbn hnw) | (refine step_append_lies _ (by rfl) _ _ _ (by rfl) B0 31 i0 _ 4 56 Tryz.underlying29 HI.out.1 HI.out.2.1 HI.out.2.2.1 HI.out.2.2.2 rfl (by decide) _ _ _ (by rfl) OA.out.own ⟨gy,0,none⟩ ys.length yc (xqQ ys) (by rfl) (zrQ ys) HNW.out (cells_one ys) hy0 (by unfold maxLen;omega) (by omega) (by have:=HB9.out.size;omega) wn.heap.size rfl ?_;intro g cq w4 hown hgrow hat hlt4;have K4:=(hgrow.block X hpn (fun e=>by have:=(OA.out.own.lt X e.symm).1;omega)).trans HXN.out;have HAP:=xaQ (And.intro hown (And.intro hgrow hat));clear e0 e1 e2 e3 e4 e5 e6 e7;obtain ⟨l0,l1,l2,l3,l4,l5,l6,l7⟩:=xcQ K4;clear K4 hown hgrow hat))
   all_goals
    have HD:=xaQ (grow_doneS (w1:=w1) HOA.out HXW.out hXB hBw (Nat.le_of_eq HXE.out) HBW.out HB9.out HM1.out.2.sits HM1.out.2.new HAP.out.1 HAP.out.2.1 HAP.out.2.2)
    have HEE:Hid (xmQ (els++ys)=plnL (kk.take (i+1))):=xaQ (by rw [xvQ,HER.out,HPT.out,HM1.out.1])
    go_wp2
    go_roundg g1
    case rel=>exact ⟨i+1,_,_,_,by omega,by simp,HD.out.1,HEE.out,HD.out.2.1,HD.out.2.2.1,HD.out.2.2.2⟩
    case measure=>omega
  ·have hik:i=kk.length:=by omega
   subst hik
   have i1:¬ (kk.length:Int)<(kk.length:Int):=by omega
   obtain ⟨d0,d1,d2,d3,d4,d5,d6,d7⟩:=xcQ hX
   have HEE:Hid (xmQ els=plnL kk):=xaQ (by rw [HER.out,List.take_length])
   have hb1:=HBW.out.size
   clear hX hbel
   go_wp2
   have hm:(A.node 30 s m sa sc els).mine wr B0:=⟨HOA.out,by unfold maxLen;omega,by unfold maxLen;omega⟩
   have hA:Below wr.heap.size wr (wr.alloc (.cells (xqQ [A.node 30 s m sa sc els]).toArray 31)):=(Below.refl _ _).alloc (Nat.le_refl _) _
   have hb0:=HB.out.size
   have hme:=HXE.out
   refine bodyPost_ret (v:=.slice (some ⟨wr.heap.size,0,none⟩) 1 1) (by simp [results,Tryz.results68,go_sem]) rfl ⟨[A.node 30 s m sa sc els],_,_,rfl,?_,?_,?_,?_⟩
   ·simp [xmQ,A.erase,HEE.out,plnK]
   ·exact mkOne (x1Q hm.tree.1) hA (heap_alloc_new _ _) (Nat.le_refl _) (NewL.one (hm.tree.2.1.mono (by omega))) (by omega) (by simp [maxLen])
   ·intro x e
    cases e
    exact (hm.below hA).mono (by omega)
   ·have b8:=xbQ HB.out HBW.out
    exact b8.alloc b8.size _
end Go.Proofs.YtocbgbkdlfkjjaaGreatDoor
