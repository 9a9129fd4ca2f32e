/- ROWS OF TREES OF ONE'S OWN; CONTRACTS of the program's varNamed, setTo. -/
import Derived.Test.YtocbgbkdlfkjjaaGreatDoorMCa
import Derived.Test.YtocbgbkdlfkjjaaGreatDoorMHv
import Derived.Deep.RegionLaw
import Derived.Deep.AppendLies
import Derived.Deep.CutRange
import Derived.Deep.RegionHeld3
set_option maxRecDepth 100000
set_option maxHeartbeats 6400000
namespace Go.Proofs.YtocbgbkdlfkjjaaGreatDoor
open Go.RowKit
open Pl
structure OwnA (w:World) (B:Nat) (v:Value) (els:List A):Prop where
 own:w.ownsRow B 31 4 v els.length (xqQ els)
 sits:SitsL w els
 new:NewL B els
 apart:∀ g,v.ownBlock=some g→g ∉ feet els
theorem OwnA.nil (w:World) (B:Nat):OwnA w B (.slice none 0 0) []:=⟨World.ownsRow_nil _ _ _ _,trivial,⟨List.nodup_nil,fun b hb=>(by cases hb)⟩,fun g e=>(by cases e)⟩
theorem OwnA.grown {w w':World} {B:Nat} {v:Value} {els:List A} {row:Option Nat} (h:OwnA w B v els) (hg:w.grownBy w' row) (hr:∀ p,row=some p→p<B):OwnA w' B v els:=by
 have lt:=SitsL.lt h.sits
 refine ⟨h.own.kept hg ?_,h.sits.stay fun q hq=>hg.block q (lt q hq) fun e=>?_,h.new,h.apart⟩
 ·cases hv:v.ownBlock with
  | none=>exact .inl rfl
  | some g=>exact .inr fun e=>by have:=(h.own.lt g hv).1;have:=hr g e.symm;omega
 ·have:=h.new.2 q hq
  have:=hr q e.symm
  omega
theorem below_grown {w w':World} (h:Below w.heap.size w w') (row:Option Nat):w.grownBy w' row:=⟨h.os,h.tape,h.output,h.size,fun q hq _=>h.block q hq⟩
theorem OwnA.below {w w':World} {B:Nat} {v:Value} {els:List A} (h:OwnA w B v els) (hb:Below w.heap.size w w'):OwnA w' B v els:=h.grown (below_grown hb none) (fun p e=>by cases e)
theorem NewL.append {n n1:Nat} {xs ys:List A} (h:NewL n xs) (hlt:∀ b∈feet xs,b<n1) (hy:NewL n1 ys) (hn:n≤n1):NewL n (xs++ys):=by
 unfold NewL
 rw [yeQ]
 refine ⟨List.nodup_append.2 ⟨h.1,hy.1,fun p hp q hq e=>?_⟩,fun b hb=>?_⟩
 ·have h1:=hlt p hp
  have h2:=hy.2 q hq
  omega
 ·rcases List.mem_append.1 hb with hb | hb
  ·exact h.2 b hb
  ·exact Nat.le_trans hn (hy.2 b hb)
theorem sitsL_append {w:World} {xs ys:List A} (h:SitsL w xs) (hy:SitsL w ys):SitsL w (xs++ys) :=
 (yyQ _ _).2 fun y hm=>by
  rcases List.mem_append.1 hm with hm | hm
  ·exact (yyQ _ _).1 h y hm
  ·exact (yyQ _ _).1 hy y hm
theorem OwnA.push {w w3 w4:World} {B g c2 j:Nat} {sa:Option Addr} {sc:Nat} {els xs:List A} {cs:Array Value} (h:OwnA w B (.slice sa els.length sc) els) (hb:Below w.heap.size w w3) (hx:SitsL w3 xs) (hn:NewL w.heap.size xs) (hB:B≤w.heap.size)
 (hown:w4.ownsRow B 31 4 (.slice (some ⟨g,0,none⟩) (els.length+j) c2) (els.length+j) (xqQ els++xqQ xs)) (hgrow:(w3.alloc (.cells cs 31)).grownBy w4 (Value.slice sa els.length sc).ownBlock)
 (hat:(Value.slice sa els.length sc).ownBlock=some g∨g=w3.heap.size+1) (hj:xs.length=j) :
 OwnA w4 B (.slice (some ⟨g,0,none⟩) (els++xs).length c2) (els++xs):=by
 have h3:=h.below hb
 have lx:=SitsL.lt hx
 have le:=SitsL.lt h3.sits
 have le0:=SitsL.lt h.sits
 have hol:=h.own.lt
 have hlen:(els++xs).length=els.length+j:=by simp [hj]
 have keep:∀ q,q<w3.heap.size→(∀ g',(Value.slice sa els.length sc).ownBlock=some g'→q≠g')→w4.heap[q]?=w3.heap[q]?:=fun q hq hne=>by
  rw [hgrow.block q (by simp;omega) (fun e=>hne q e.symm rfl),Lib.alloc_old _ _ _ hq]
 refine ⟨?_,?_,?_,?_⟩
 ·rw [hlen,ziQ]
  exact hown
 ·refine sitsL_append (h3.sits.stay fun q hq=>?_) (hx.stay fun q hq=>?_)
  ·rw [keep q (le q hq) (fun g' e=>fun e2=>h.apart g' e (e2 ▸ hq))]
  ·rw [keep q (lx q hq) (fun g' e=>by have:=(hol g' e).2;have:=hn.2 q hq;omega)]
 ·exact NewL.append h.new le0 hn hB
 ·intro g' e hq
  simp [Value.ownBlock] at e
  subst e
  rw [yeQ,List.mem_append] at hq
  rcases hat with hat | hat
  ·rcases hq with hq | hq
   ·exact h.apart g hat hq
   ·have:=(hol g hat).2
    have:=hn.2 g hq
    omega
  ·rcases hq with hq | hq
   ·have:=le g hq;omega
   ·have:=lx g hq;omega
def A.room:A→Prop
 | .node _ _ _ _ c kk=>kk.length≤c∧c≤maxLen
theorem OwnA.tree {w:World} {B:Nat} {sa:Option Addr} {sc:Nat} {els:List A} (h:OwnA w B (.slice sa els.length sc) els) {k m:Int} {s:ByteArray} (hs:s.size≤maxLen) (hn:els.length≤maxLen) :
 Sits w (.node k s m sa sc els)∧New B (.node k s m sa sc els)∧(A.node k s m sa sc els).room:=by
 rcases h.own.2 with ⟨e,h0⟩ | ⟨g,c,cur,e,hb,hg,h1,h2,h3,h4⟩
 ·have:els=[]:=List.eq_nil_of_length_eq_zero h0
  subst this
  simp at e
  obtain ⟨rfl,rfl⟩:=e
  exact ⟨Sits.leaf _ _ _ hs,New.leaf _ _ _ _ _ _,by simp [A.room]⟩
 ·simp at e
  obtain ⟨rfl,rfl⟩:=e
  refine ⟨Sits.node hs hn h.sits hg (fun i v hv=>?_),New.node h.new hb (h.apart g rfl),h1,h2⟩
  rw [← h4,List.getElem?_take] at hv
  split at hv
  ·simpa using hv
  ·cases hv
theorem xUQ {B:Nat} {a b:World} (h:Below B a b) {p:Nat} (hp:B≤p) (v0 v1 v2 v3:Value):Below B a (put4 b p v0 v1 v2 v3) :=
 (((h.setCell (p:=⟨p,0,none⟩) hp _).setCell (p:=⟨p,1,none⟩) hp _).setCell (p:=⟨p,2,none⟩) hp _).setCell (p:=⟨p,3,none⟩) hp _
def A.mine (w:World) (B:Nat):A→Prop
 | .node _ s _ a c kk=>OwnA w B (.slice a kk.length c) kk∧s.size≤maxLen∧kk.length≤maxLen
theorem A.mine.tree {w:World} {B:Nat} {x:A} (h:x.mine w B):Sits w x∧New B x∧x.room:=by
 obtain ⟨k,s,m,a,c,kk⟩:=x
 exact h.1.tree h.2.1 h.2.2
theorem A.mine.grown {w w':World} {B:Nat} {x:A} {row:Option Nat} (h:x.mine w B) (hg:w.grownBy w' row) (hr:∀ p,row=some p→p<B):x.mine w' B:=by
 obtain ⟨k,s,m,a,c,kk⟩:=x
 exact ⟨h.1.grown hg hr,h.2⟩
theorem A.mine.below {w w':World} {B:Nat} {x:A} (h:x.mine w B) (hb:Below w.heap.size w w'):x.mine w' B:=h.grown (below_grown hb none) (fun p e=>by cases e)
theorem put4_grown (w:World) (p:Nat) (v0 v1 v2 v3:Value):w.grownBy (put4 w p v0 v1 v2 v3) (some p):=⟨rfl,rfl,rfl,by rw [ySQ];exact Nat.le_refl _,fun q _ hq=>xLQ _ _ _ _ (fun e=>hq (by rw [e]))⟩
theorem A.mine.put4 {w:World} {B:Nat} {x:A} (h:x.mine w B) {p:Nat} (hp:p<B) (v0 v1 v2 v3:Value):x.mine (put4 w p v0 v1 v2 v3) B:=h.grown (put4_grown w p _ _ _ _) (fun q e=>by cases e;exact hp)
theorem A.mine.mono {w:World} {B B':Nat} {x:A} (h:x.mine w B) (hB:B'≤B):x.mine w B':=by
 obtain ⟨k,s,m,a,c,kk⟩:=x
 obtain ⟨⟨⟨h1,h2⟩,h3,h4,h5⟩,h6⟩:=h
 refine ⟨⟨⟨h1,?_⟩,h3,h4.mono hB,h5⟩,h6⟩
 rcases h2 with h2 | ⟨g,cap,cur,e,hb,r⟩
 ·exact .inl h2
 ·exact .inr ⟨g,cap,cur,e,Nat.le_trans hB hb,r⟩
theorem zrQ (kk:List A):(xqQ kk).length=kk.length * 4:=by
 unfold xqQ
 induction kk with
 | nil=>rfl
 | cons x r ih =>
  obtain ⟨k,s,m,a,c,q⟩:=x
  simp only [List.flatMap_cons,List.length_append,List.length_cons,ih,A.cells,List.length_nil]
  omega
theorem yUQ {w w':World} {n b:Nat} {xs:List A} {k m:Int} {s:ByteArray} (hs:SitsL w xs) (hb:Below w.heap.size w w') (hB:w'.heap[b]?=some (.cells (xqQ xs).toArray 31 (0,0))) (hge:w.heap.size≤b) (hn:NewL n xs) (hle:n≤w.heap.size)
 (hz:s.size≤maxLen) (hl:xs.length≤maxLen):(A.node k s m (some ⟨b,0,none⟩) xs.length xs).mine w' n:=by
 have hlt:=SitsL.lt hs
 refine ⟨⟨⟨by rw [zrQ],.inr ⟨b,xs.length,_,rfl,by omega,hB,Nat.le_refl _,hl,by rw [List.size_toArray,zrQ],by rw [← zrQ xs];simp⟩⟩,hs.stay fun q hq=>hb.block q (hlt q hq),hn,fun g e q=>?_⟩,hz,hl⟩
 simp [Value.ownBlock] at e
 have:=hlt _ q
 omega
theorem yVQ (w:World) (B:Nat) {k m:Int} {s:ByteArray} (hs:s.size≤maxLen):(A.node k s m none 0 []).mine w B:=⟨OwnA.nil _ _,hs,by simp [maxLen]⟩
def TPost (t:T) (w:World) (e:Ending) (w':World):Prop:=∃ x:A,e=.returned x.val∧x.erase=t∧x.mine w' w.heap.size∧Below w.heap.size w w'
theorem varNamed_any (s:ByteArray) (w:World) (hs:s.size≤8):Calls Tryz.prog 135 #[.string s] w fun e w'=>e=.returned (A.node 2 s 0 none 0 []).val∧Below w.heap.size w w':=by
 have HB:=xaQ ((Below.refl w.heap.size w).alloc (Nat.le_refl _) (.cells #[.int .i64 0,.string ⟨#[]⟩,.int .i64 0,.slice none 0 0] 31))
 have h0:=heap_alloc_new w (.cells #[.int .i64 0,.string ⟨#[]⟩,.int .i64 0,.slice none 0 0] 31)
 obtain ⟨R,hR⟩:∃ q,w.heap.size=q:=⟨_,rfl⟩
 obtain ⟨w1,hw1⟩:∃ q,w.alloc (.cells #[.int .i64 0,.string ⟨#[]⟩,.int .i64 0,.slice none 0 0] 31)=q:=⟨_,rfl⟩
 rw [hw1,hR] at h0
 rw [hw1] at HB
 have HC:=xaQ (clone_any s w1 (by omega))
 have H0:=xaQ h0
 go_enter Tryz.func135,Tryz.ntmps135
 go_wp2_with fail
 first | rw [hw1] | skip
 first | rw [hR] | skip
 go_wp2_with (go_at_call 45;refine HC.out.mono ?_;rintro e w2 ⟨rfl,hb2⟩;have H2:=(hb2.block R (Array.getElem?_eq_some_iff.1 H0.out).1).trans H0.out;obtain ⟨c0,c1,c2,c3,f0,f1,f2,f3⟩:=xcQ H2)
 obtain ⟨q0,q1,q2,q3⟩:=xhQ H2 (.int .i64 2) (.string s) (.int .i64 0) (.slice none 0 0)
 refine bodyPost_ret (v:=(A.node 2 s 0 none 0 []).val) (by simp [results,Tryz.results135,go_sem,q0,q1,q2,q3,A.val]) rfl ⟨rfl,?_⟩
 exact xUQ (xbQ HB.out hb2) (Nat.le_of_eq hR) _ _ _ _
theorem setTo_any (s:ByteArray) (x:A) (w:World) (hs:s.size≤8):Calls Tryz.prog 134 #[.string s,x.val] w fun e w'=>∃ b,e=.returned (A.node 21 s 0 (some ⟨b,0,none⟩) 1 [x]).val∧w'.heap[b]?=some (.cells (xqQ [x]).toArray 31 (0,0))∧w.heap.size≤b∧Below w.heap.size w w':=by
 obtain ⟨zk,zs,zm,za,zc,zkk⟩:=x
 simp only [A.val]
 have HB:=xaQ (((Below.refl w.heap.size w).alloc (Nat.le_refl _) (.cells #[.int .i64 zk,.string zs,.int .i64 zm,.slice za zkk.length zc] 31)).alloc (by simp) (.cells #[.int .i64 0,.string ⟨#[]⟩,.int .i64 0,.slice none 0 0] 31))
 have F0:=Four.new w zk zs zm za zkk.length zc 31
 have F1:=F0.below ((Below.refl _ _).alloc (Nat.le_refl _) (.cells #[.int .i64 0,.string ⟨#[]⟩,.int .i64 0,.slice none 0 0] 31))
 have h0:=heap_alloc_new (w.alloc (.cells #[.int .i64 zk,.string zs,.int .i64 zm,.slice za zkk.length zc] 31)) (.cells #[.int .i64 0,.string ⟨#[]⟩,.int .i64 0,.slice none 0 0] 31)
 have hsz:(w.alloc (.cells #[.int .i64 zk,.string zs,.int .i64 zm,.slice za zkk.length zc] 31)).heap.size=w.heap.size+1:=by simp
 rw [hsz] at h0
 obtain ⟨P,hP⟩:∃ q,w.heap.size=q:=⟨_,rfl⟩
 obtain ⟨w1,hw1⟩:∃ q,(w.alloc (.cells #[.int .i64 zk,.string zs,.int .i64 zm,.slice za zkk.length zc] 31)).alloc (.cells #[.int .i64 0,.string ⟨#[]⟩,.int .i64 0,.slice none 0 0] 31)=q:=⟨_,rfl⟩
 rw [hw1] at h0 F1 HB
 rw [hP] at h0 F1
 obtain ⟨p0,p1,p2,p3⟩:=F1
 obtain ⟨c0,c1,c2,c3,f0,f1,f2,f3⟩:=xcQ h0
 have HC:=xaQ (fun W=>clone_any s W (by omega))
 have H0:=xaQ h0
 have hlt:P+1<w1.heap.size:=(Array.getElem?_eq_some_iff.1 h0).1
 go_enter Tryz.func134,Tryz.ntmps134
 go_wp2_with fail
 first | rw [hw1] | skip
 first | rw [hP] | skip
 clear hw1 hsz F0 h0
 go_region_law (first | (go_simp;go_at_call 45;refine (HC.out _).mono ?_;rintro e w2 ⟨rfl,hb2⟩;have HB2:=xaQ hb2;first | (obtain ⟨r0,r1,r2,r3⟩:=Four.below (w:=w1.drew) ⟨p0,p1,p2,p3⟩ hb2;have H2:=xaQ ((Lib.alloc_old w2 (.cells #[.int .i64 zk,.string zs,.int .i64 zm,.slice za zkk.length zc] 31) (P+1) (Nat.lt_of_lt_of_le hlt hb2.size)).trans ((hb2.block (P+1) hlt).trans H0.out));obtain ⟨d0,d1,d2,d3,e0,e1,e2,e3⟩:=xcQ H2.out) | (have H2:=xaQ ((hb2.block (P+1) (by simp;omega)).trans ((Lib.alloc_old w1.drew _ _ hlt).trans H0.out));obtain ⟨d0,d1,d2,d3,e0,e1,e2,e3⟩:=xcQ H2.out);clear hb2))
 all_goals
  go_wp2
  first
  | (have hz2:=HB2.out.size
     obtain ⟨q0,q1,q2,q3⟩:=xhQ H2.out (.int .i64 21) (.string s) (.int .i64 0) (.slice (some ⟨w2.heap.size,0,none⟩) 1 1)
     refine bodyPost_ret (v:=.agg #[.int .i64 21,.string s,.int .i64 0,.slice (some ⟨w2.heap.size,0,none⟩) 1 1]) (by simp [results,Tryz.results134,go_sem,q0,q1,q2,q3]) rfl ⟨w2.heap.size,rfl,?_,?_,?_⟩
     ·refine (xLQ _ _ _ _ (by show w2.heap.size≠P+1;have:P+1<w2.heap.size:=Nat.lt_of_lt_of_le hlt hz2;omega)).trans ?_
      exact heap_alloc_new w2 _
     ·exact Nat.le_trans HB.out.size hz2
     ·refine xUQ ((xbQ HB.out.drew HB2.out).alloc (Nat.le_trans HB.out.size hz2) _) (by omega) _ _ _ _)
  | (obtain ⟨q0,q1,q2,q3⟩:=xhQ H2.out (.int .i64 21) (.string s) (.int .i64 0) (.slice (some ⟨w1.heap.size,0,none⟩) 1 1)
     refine bodyPost_ret (v:=.agg #[.int .i64 21,.string s,.int .i64 0,.slice (some ⟨w1.heap.size,0,none⟩) 1 1]) (by simp [results,Tryz.results134,go_sem,q0,q1,q2,q3]) rfl ⟨w1.heap.size,rfl,?_,HB.out.size,?_⟩
     ·refine (xLQ _ _ _ _ (by show w1.heap.size≠P+1;omega)).trans ?_
      exact (HB2.out.block w1.heap.size (by simp)).trans (heap_alloc_new w1.drew _)
     ·refine xUQ (xbQ (HB.out.drew.alloc HB.out.size _) HB2.out) (by omega) _ _ _ _)
theorem sVar_any (s:ByteArray) (w:World):Calls Tryz.prog 97 #[.string s] w fun e w'=>e=.returned (A.node 2 s 0 none 0 []).val∧Below w.heap.size w w':=by
 go_enter Tryz.func97,Tryz.ntmps97
 go_wp2
 exact bodyPost_ret (v:=(A.node 2 s 0 none 0 []).val) (by simp [results,Tryz.results97,go_sem,A.val]) rfl ⟨rfl,(Below.refl _ _).alloc (Nat.le_refl _) _⟩
theorem sNum1_any (w:World):Calls Tryz.prog 98 #[.int .i64 1] w fun e w'=>e=.returned (A.node 1 ⟨#[]⟩ 1 none 0 []).val∧Below w.heap.size w w':=by
 go_enter Tryz.func98,Tryz.ntmps98
 go_wp2
 exact bodyPost_ret (v:=(A.node 1 ⟨#[]⟩ 1 none 0 []).val) (by simp [results,Tryz.results98,go_sem,A.val]) rfl ⟨rfl,(Below.refl _ _).alloc (Nat.le_refl _) _⟩
theorem sSet_any (s:ByteArray) (x:A) (w:World):Calls Tryz.prog 95 #[.string s,x.val] w fun e w'=>∃ b,e=.returned (A.node 21 s 0 (some ⟨b,0,none⟩) 1 [x]).val∧w'.heap[b]?=some (.cells (xqQ [x]).toArray 31 (0,0))∧w.heap.size≤b∧Below w.heap.size w w':=by
 obtain ⟨zk,zs,zm,za,zc,zkk⟩:=x
 simp only [A.val]
 go_enter Tryz.func95,Tryz.ntmps95
 go_wp2
 exact bodyPost_ret (v:=.agg #[.int .i64 21,.string s,.int .i64 0,.slice (some ⟨w.heap.size+1+1,0,none⟩) 1 1]) (by simp [results,Tryz.results95,go_sem]) rfl
  ⟨w.heap.size+1+1,rfl,third_new _ _ _ _ _,by omega,(((Below.refl _ _).alloc (Nat.le_refl _) _).alloc (by simp) _).alloc (by simp;omega) _⟩
def CopyOk (t:T):Prop:=match t with
 | .node k s m kk=>s.size≤maxLen→cnts kk≤1000→∀ (a:Option Addr) (cc:Nat) (w:World),Kids w 0 a kk→Calls Tryz.prog 67 #[.agg #[.int .i64 k,.string s,.int .i64 m,.slice a kk.length cc]] w (TPost (.node k s m kk) w)
theorem sCopy_any (t:T):CopyOk t:=by
 refine T.induct (P:=CopyOk) ?_ t
 intro k s m kk IH hs hct a cc w hk
 have B1:Below w.heap.size w ((w.alloc (.cells #[.int .i64 k,.string s,.int .i64 m,.slice a kk.length cc] 31)).alloc (.cells #[.int .i64 0,.string ⟨#[]⟩,.int .i64 0,.slice none 0 0] 31)):=((Below.refl w.heap.size w).alloc (Nat.le_refl _) _).alloc (by simp) _
 have h00:=heap_alloc_new w (.cells #[.int .i64 k,.string s,.int .i64 m,.slice a kk.length cc] 31)
 have h01:=(Lib.alloc_old (w.alloc (.cells #[.int .i64 k,.string s,.int .i64 m,.slice a kk.length cc] 31)) (.cells #[.int .i64 0,.string ⟨#[]⟩,.int .i64 0,.slice none 0 0] 31) w.heap.size (by simp)).trans h00
 have h0:=heap_alloc_new (w.alloc (.cells #[.int .i64 k,.string s,.int .i64 m,.slice a kk.length cc] 31)) (.cells #[.int .i64 0,.string ⟨#[]⟩,.int .i64 0,.slice none 0 0] 31)
 have hsz:(w.alloc (.cells #[.int .i64 k,.string s,.int .i64 m,.slice a kk.length cc] 31)).heap.size=w.heap.size+1:=by simp
 rw [hsz] at h0
 obtain ⟨P,hP⟩:∃ q,w.heap.size=q:=⟨_,rfl⟩
 obtain ⟨w1,hw1⟩:∃ q,(w.alloc (.cells #[.int .i64 k,.string s,.int .i64 m,.slice a kk.length cc] 31)).alloc (.cells #[.int .i64 0,.string ⟨#[]⟩,.int .i64 0,.slice none 0 0] 31)=q:=⟨_,rfl⟩
 rw [hw1] at h0 h01 B1
 rw [hP] at h0 h01
 have HB:=xaQ B1
 have HK:=xaQ (hk.below B1)
 have H0:=xaQ h0
 have H1:=xaQ h01
 have HIH:=xaQ IH
 have hlk:=ywQ kk
 have hlt:P+1<w1.heap.size:=(Array.getElem?_eq_some_iff.1 h0).1
 obtain ⟨i0,hi0,hz0⟩:=Option.map_eq_some_iff.1 Tryz.info31
 simp only [Prod.mk.injEq] at hz0
 obtain ⟨hz1,hz2,hz3⟩:=hz0
 have HI:=xaQ (show Tryz.prog.info? 31=some i0∧i0.zero=some (.agg #[.int .i64 0,.string ByteArray.empty,.int .i64 0,.slice none 0 0])∧i0.size=4∧i0.bytes=56 from ⟨hi0,hz1,hz2,hz3⟩)
 have HO0:Hid (OwnA (w1.alloc (.cells #[] 31)) w1.heap.size (.slice (some ⟨w1.heap.size,0,none⟩) 0 0) []):=xaQ ⟨World.ownsRow_made (e:=31) (size:=4) (base:=w1.heap.size) w1 #[] 0 (Nat.le_refl _) (Nat.zero_le _) rfl,trivial,⟨List.nodup_nil,fun b hb=>(by cases hb)⟩,fun g e h=>(by cases h)⟩
 have HB0:=xaQ ((Below.refl w1.heap.size w1).alloc (Nat.le_refl _) (.cells #[] 31))
 clear IH hk B1 hi0 hz1 hz2 hz3 h00 h01 h0
 go_enter Tryz.func67,Tryz.ntmps67
 go_wp2
 have HPS:=xaQ hP
 clear hw1 hP hsz
 go_loopg [3,4] kk.length (fun g s3 s4 wr=>∃ (i:Nat) (els:List A) (sa:Option Addr) (sc:Nat),i+g=kk.length∧s4=.int .i64 i∧s3=.slice sa els.length sc∧OwnA wr w1.heap.size (.slice sa els.length sc) els∧xmQ els=kk.take i∧Below w1.heap.size w1 wr)
 case atStart=>exact ⟨0,[],_,_,by omega,rfl,rfl,HO0.out,rfl,HB0.out⟩
 case round =>
  obtain ⟨i,els,sa,sc,hig,rfl,rfl,hoa,her,hbel⟩:=hrel
  have HOA:=xaQ hoa
  have HER:=xaQ her
  have HBL:=xaQ hbel
  have hel:els.length≤1000:=by rw [← xzQ,her,List.length_take];omega
  obtain ⟨p0,p1,p2,p3,p4,p5,p6,p7⟩:=xcQ ((hbel.block P (by omega)).trans H1.out)
  have hz1:=hbel.size
  clear hoa her HO0 HB0
  by_cases hil:i<kk.length
  ·obtain ⟨x,hx⟩:∃ x,kk[i]?=some x:=⟨_,List.getElem?_eq_getElem hil⟩
   have HX:=xaQ hx
   have hmem:=List.mem_of_getElem? hx
   have hix:=HIH.out x hmem
   have hcx:cnt x≤cnts kk:=by
    have h1:=zUQ (kk.take i) (kk.drop i)
    rw [List.take_append_drop,drop_cons hx] at h1
    simp only [cnts] at h1
    omega
   obtain ⟨xk,xs,xm,xkk⟩:=x
   simp only [cnt] at hcx
   obtain ⟨b,o,xa,xc,rfl,c0,c1,c2,c3,hxs,_,hxk⟩:=yqQ HK.out hbel hx
   have i0':(0:Int)≤(i:Int):=by omega
   have i1:(i:Int)<(kk.length:Int):=by omega
   obtain ⟨g1,rfl⟩:∃ q,gk=q+1:=⟨gk - 1,by omega⟩
   have w3:IntKind.i64.wrap ((i:Int)+1)=(i:Int)+1:=IntWalk.i64_in _ (by omega)
   have HC:=xaQ (hix hxs (by omega) xa xc wr hxk)
   clear hx hbel hix hxk
   go_wp2_with (first | (go_at_call 67;refine HC.out.mono ?_;rintro e w6 ⟨y,rfl,hye,hym,hb6⟩;obtain ⟨zk,zs,zm,za,zc,zkk⟩:=y;simp only [A.val];have OA:=xaQ (HOA.out.below hb6);have OW:=xaQ (OA.out.own.alloc (.cells #[.int .i64 zk,.string zs,.int .i64 zm,.slice za zkk.length zc] 31));have HM:=xaQ (And.intro hye (And.intro hym hb6));have hz6:=hb6.size;clear hye hym hb6) | (at_builtin;refine wpList_append_lies _ rfl _ _ _ rfl w1.heap.size 31 i0 _ 4 56 Tryz.underlying29 HI.out.1 HI.out.2.1 HI.out.2.2.1 HI.out.2.2.2 rfl (by decide) _ _ _ rfl OW.out ⟨w6.heap.size,0,none⟩ 1 1 [.int .i64 zk,.string zs,.int .i64 zm,.slice za zkk.length zc] rfl rfl (World.news_of_block (heap_alloc_new w6 _)) (fun u hu=>by simp at hu;rcases hu with rfl | rfl | rfl | rfl <;> rfl) (by decide) (by unfold maxLen;omega) (by omega) (by simp;omega) (w6.heap.size+1) (by simp) ?_;intro g cq w4 hown hgrow hat hlt4) | go_in)
   have hmt:=HM.out.2.1.tree
   have HP:=xaQ (HOA.out.push HM.out.2.2 (x1Q hmt.1) (NewL.one hmt.2.1) hz1 hown hgrow hat rfl)
   have HB4:Hid (Below w1.heap.size w1 w4):=xaQ (by
    have b6:=xbQ HBL.out HM.out.2.2
    exact (b6.alloc b6.size _).grown hgrow (Nat.le_trans b6.size (by simp)) (fun q e=>(HOA.out.own.lt q e).1))
   have HEE:Hid (xmQ (els++[A.node zk zs zm za zc zkk])=kk.take (i+1)):=xaQ (by rw [xvQ,HER.out,x4Q HX.out];simp only [xmQ,HM.out.1])
   clear hown hgrow hat OW
   go_wp2
   go_roundg g1
   case rel=>exact ⟨i+1,_,_,_,by omega,by simp,by rw [List.length_append];rfl,HP.out,HEE.out,HB4.out⟩
   case measure=>omega
  ·have hik:i=kk.length:=by omega
   subst hik
   have i1:¬ (kk.length:Int)<(kk.length:Int):=by omega
   have hR:=(hbel.block (P+1) hlt).trans H0.out
   obtain ⟨e0,e1,e2,e3,e4,e5,e6,e7⟩:=xcQ hR
   have HEE:Hid (xmQ els=kk):=xaQ (by rw [HER.out,List.take_length])
   have HP3:=xaQ ((hbel.block P (by omega)).trans H1.out)
   have HR:=xaQ hR
   clear hbel hR
   go_wp2
   have hR2:(wr.setCell ⟨P,3,none⟩ (.slice sa els.length sc)).heap[P+1]?=some (.cells #[.int .i64 0,.string ⟨#[]⟩,.int .i64 0,.slice none 0 0] 31 (0,0)):=(Below.heap_setCell wr ⟨P,3,none⟩ _ (P+1) (by simp)).trans HR.out
   obtain ⟨q0,q1,q2,q3⟩:=xhQ hR2 (.int .i64 k) (.string s) (.int .i64 m) (.slice sa els.length sc)
   have hg:wr.grownBy (wr.setCell ⟨P,3,none⟩ (.slice sa els.length sc)) (some P):=⟨rfl,rfl,rfl,by simp [World.setCell],fun q _ hq=>Below.heap_setCell _ _ _ _ (fun e=>hq (by rw [e]))⟩
   have hm:(A.node k s m sa sc els).mine wr w1.heap.size:=⟨HOA.out,hs,by unfold maxLen;omega⟩
   refine bodyPost_ret (v:=(A.node k s m sa sc els).val) (by simp [results,Tryz.results67,go_sem,q0,q1,q2,q3,A.val]) rfl ⟨_,rfl,?_,?_,?_⟩
   ·simp only [A.erase,HEE.out]
   ·exact ((hm.grown hg (fun p e=>by cases e;omega)).put4 hlt _ _ _ _).mono HB.out.size
   ·have hw:w.heap.size≤P:=Nat.le_of_eq HPS.out
    exact xUQ ((xbQ HB.out HBL.out).setCell (p:=⟨P,3,none⟩) hw _) (Nat.le_succ_of_le hw) _ _ _ _
def PlainOk (t:T):Prop:=match t with
 | .node k s m kk=>xeQ (.node k s m kk)=true→cnt (.node k s m kk)≤500→∀ (a:Option Addr) (cc:Nat) (w:World),Kids w 0 a kk→Calls Tryz.prog 73 #[.agg #[.int .i64 k,.string s,.int .i64 m,.slice a kk.length cc]] w (TPost (plnT (.node k s m kk)) w)
theorem kid_at {w w':World} {a:Option Addr} {D:List T} {i:Nat} {k m:Int} {s:ByteArray} {kk:List T} (hk:Kids w 0 a D) (hb:Below w.heap.size w w') (hx:D[i]?=some (.node k s m kk)) :
 ∃ (b o:Nat) (xa:Option Addr) (xc:Nat),a=some ⟨b,o,none⟩∧(∀ W,Below w'.heap.size w' W→W.cell? ⟨b,o+i * 4,none⟩=some (.int .i64 k)∧W.cell? ⟨b,o+i * 4+1,none⟩=some (.string s)∧W.cell? ⟨b,o+i * 4+2,none⟩=some (.int .i64 m)∧W.cell? ⟨b,o+i * 4+3,none⟩=some (.slice xa kk.length xc)∧Kids W 0 xa kk):=by
 obtain ⟨b,o,xa,xc,rfl,c0,c1,c2,c3,_,_,h⟩:=yqQ hk hb hx
 have hl:=World.block_lt_of_cell? w' _ c0
 exact ⟨b,o,xa,xc,rfl,fun W hW=>⟨(hW.cell (p:=⟨b,_,none⟩) hl).trans c0,(hW.cell (p:=⟨b,o+i * 4+1,none⟩) hl).trans c1,(hW.cell (p:=⟨b,o+i * 4+2,none⟩) hl).trans c2,(hW.cell (p:=⟨b,o+i * 4+3,none⟩) hl).trans c3,h.below hW⟩⟩
theorem start_any (s:ByteArray) (m:Int) (t1 t2 t3:T) (a:Option Addr) (cc:Nat) (w:World) (hs:s.size≤8) (hk:Kids w 0 a [t1,t2,t3]) (h1:PlainOk t1) (hf:xeQ t1=true) (hc:cnt t1≤500) :
 Calls Tryz.prog 101 #[.agg #[.int .i64 26,.string s,.int .i64 m,.slice a 3 cc]] w (TPost (setT s (plnT t1)) w):=by
 obtain ⟨k1,s1,m1,kk1⟩:=t1
 have B1:Below w.heap.size w ((w.alloc (.cells #[.int .i64 26,.string s,.int .i64 m,.slice a 3 cc] 31)).alloc (.cells #[.int .i64 0,.string ⟨#[]⟩,.int .i64 0,.slice none 0 0] 31)):=((Below.refl w.heap.size w).alloc (Nat.le_refl _) _).alloc (by simp) _
 have F0:=Four.new w 26 s m a 3 cc 31
 have F1:=F0.below ((Below.refl _ _).alloc (Nat.le_refl _) (.cells #[.int .i64 0,.string ⟨#[]⟩,.int .i64 0,.slice none 0 0] 31))
 have h0:=heap_alloc_new (w.alloc (.cells #[.int .i64 26,.string s,.int .i64 m,.slice a 3 cc] 31)) (.cells #[.int .i64 0,.string ⟨#[]⟩,.int .i64 0,.slice none 0 0] 31)
 have hsz:(w.alloc (.cells #[.int .i64 26,.string s,.int .i64 m,.slice a 3 cc] 31)).heap.size=w.heap.size+1:=by simp
 rw [hsz] at h0
 obtain ⟨P,hP⟩:∃ q,w.heap.size=q:=⟨_,rfl⟩
 obtain ⟨w1,hw1⟩:∃ q,(w.alloc (.cells #[.int .i64 26,.string s,.int .i64 m,.slice a 3 cc] 31)).alloc (.cells #[.int .i64 0,.string ⟨#[]⟩,.int .i64 0,.slice none 0 0] 31)=q:=⟨_,rfl⟩
 rw [hw1] at h0 F1 B1
 rw [hP] at h0 F1
 have HB:=xaQ B1
 obtain ⟨b,o,xa,xc,rfl,hkd⟩:=kid_at hk B1 (i:=0) rfl
 have HKD:=xaQ hkd
 obtain ⟨c0,c1,c2,c3,_⟩:=hkd w1.drew (Below.refl _ _).drew
 simp only [Nat.zero_mul,Nat.add_zero] at c0 c1 c2 c3
 have HCL:=xaQ (fun W hW=>h1 hf hc xa xc W (hkd W hW).2.2.2.2)
 have HF1:=xaQ F1
 obtain ⟨p0,p1,p2,p3⟩:=F1
 have H0:=xaQ h0
 have hlt:P+1<w1.heap.size:=(Array.getElem?_eq_some_iff.1 h0).1
 clear hkd h1 hf hc hk B1
 go_enter Tryz.func101,Tryz.ntmps101
 go_wp2_with fail
 first | rw [hw1] | skip
 first | rw [hP] | skip
 clear hw1 hsz F0 h0
 go_region_law (first | (go_simp;go_at_call 73;refine (HCL.out _ (Below.refl _ _).drew).mono ?_;rintro e w2 ⟨x,rfl,hxe,hxm,hb2⟩;obtain ⟨zk,zs,zm,za,zc,zkk⟩:=x;simp only [A.val];obtain ⟨r0,r1,r2,r3⟩:=Four.below (w:=w1.drew) ⟨p0,p1,p2,p3⟩ hb2;have HX:=xaQ (And.intro hxe hxm);have HB2:=xaQ hb2;clear hxe hxm hb2) | (go_simp;go_at_call 134;refine (setTo_any s (.node zk zs zm za zc zkk) _ hs).mono ?_;rintro e w3 ⟨bb,rfl,hB,hge,hb3⟩;have HB3:=xaQ hb3;have H3:=xaQ ((hb3.block (P+1) (Nat.lt_of_lt_of_le hlt HB2.out.size)).trans ((HB2.out.block (P+1) hlt).trans H0.out));have HG:=xaQ (And.intro hB hge);obtain ⟨d0,d1,d2,d3,e0,e1,e2,e3⟩:=xcQ H3.out;clear hB hge hb3;simp only [A.val]))
 all_goals
  go_wp2
  have hz2:=HB2.out.size
  have hz3:=HB3.out.size
  have hz1:w1.heap.size=w1.drew.heap.size:=rfl
  obtain ⟨hxe,hxm⟩:=HX.out
  have hxt:=hxm.tree
  have t4:=yUQ (n:=w1.heap.size) (k:=21) (m:=0) (s:=s) (x1Q hxt.1) HB3.out HG.out.1 HG.out.2 (NewL.one hxt.2.1) hz2 (by unfold maxLen;omega) (by simp [maxLen])
  obtain ⟨q0,q1,q2,q3⟩:=xhQ H3.out (.int .i64 21) (.string s) (.int .i64 0) (.slice (some ⟨bb,0,none⟩) 1 1)
  refine bodyPost_ret (v:=(A.node 21 s 0 (some ⟨bb,0,none⟩) 1 [.node zk zs zm za zc zkk]).val) (by simp [results,Tryz.results101,go_sem,q0,q1,q2,q3,A.val]) rfl ⟨_,rfl,?_,?_,?_⟩
  ·rw [erase1,hxe];rfl
  ·exact (t4.put4 hlt _ _ _ _).mono HB.out.size
  ·exact xUQ (xbQ (xbQ HB.out.drew HB2.out) HB3.out) (by omega) _ _ _ _
end Go.Proofs.YtocbgbkdlfkjjaaGreatDoor
namespace Go.Proofs.YtocbgbkdlfkjjaaGreatDoor
open Go.RowKit
theorem ft {p:Prop} (e:false=true):p:=by cases e
theorem tf {p:Prop} (e:true=false):p:=by cases e
def metB (o:Oper) (L:Array Bool):Bool:=o.after.all fun e=>!Region.binds .any e || L.getD e.on false
def StepsI (P:Program) (ops:Array Oper) (Q:Exit→Act→World→Prop) (I:Array Bool→Act→World→Prop) (k:Nat):Prop :=
 ∀ i,k≤i→i<ops.size→∀ L a w,I L a w→i∈Region.ready .any ops L→wpOp P ops Q i (fun a' w'=>I (L.setIfInBounds i true) a' w') a w
theorem StepsI.nil {P:Program} {ops:Array Oper} {Q:Exit→Act→World→Prop} {I:Array Bool→Act→World→Prop} {k:Nat} (h:ops.size=k):StepsI P ops Q I k:=fun i h1 h2=>by omega
theorem StepsI.cons {P:Program} {ops:Array Oper} {Q:Exit→Act→World→Prop} {I:Array Bool→Act→World→Prop} {k:Nat} {o:Oper} (ho:ops[k]?=some o)
 (h:∀ L a w,I L a w→L.getD k true=false→metB o L=true→∀ K':Act→World→Prop,Shut (∀ a w,I (L.setIfInBounds k true) a w→K' a w)→if Region.wanted o (yielded ops a.tmps)=true then Oper.wp P o a w K' Q else K' (a.put o.dst undef) w)
 (hs:StepsI P ops Q I (k+1)):StepsI P ops Q I k:=fun i h1 h2 L a w hI hr=>by
 by_cases e:i=k
 ·subst e
  obtain ⟨hL,o',ho',hall⟩:=mem_ready.1 hr
  obtain rfl:o=o':=Option.some.inj (ho.symm.trans ho')
  refine wpOp_step ho fun K' hK=>h L a w hI hL ?_ K' hK
  unfold metB
  rw [Array.all_eq_true']
  intro e he
  cases hb:Region.binds .any e
  ·rfl
  ·rw [hall e he hb];rfl
 ·exact hs i (by omega) h2 L a w hI hr
theorem dp {o:Oper} {L:Array Bool} (hm:metB o L=true) (q:Nat) (h:(o.after.any fun e=>Region.binds .any e && e.on == q)=true):L.getD q false=true:=by
 unfold metB at hm
 obtain ⟨e,he,hb⟩:=Array.any_eq_true'.1 h
 simp only [Bool.and_eq_true,beq_iff_eq] at hb
 have:=Array.all_eq_true'.1 hm e he
 rw [hb.1,hb.2] at this
 simpa using this
def left (n:Nat) (L:Array Bool):Nat:=((List.range n).filter fun i=>!L.getD i true).length
theorem left_next {n i:Nat} {L:Array Bool} (hi:i<n) (h:L.getD i true=false):left n (L.setIfInBounds i true)<left n L:=by
 unfold left
 have hsub:∀ (l:List Nat),(l.filter fun j=>!(L.setIfInBounds i true).getD j true).length≤(l.filter fun j=>!L.getD j true).length∧(i∈l→(l.filter fun j=>!(L.setIfInBounds i true).getD j true).length<(l.filter fun j=>!L.getD j true).length):=by
  intro l
  induction l with
  | nil=>exact ⟨by simp,fun h=>by cases h⟩
  | cons j l ih =>
   have hj:(L.setIfInBounds i true).getD j true=if j=i then true else L.getD j true:=by
    by_cases e:j=i
    ·subst e
     rw [if_pos rfl]
     simp only [Array.getD_eq_getD_getElem?,Array.getElem?_setIfInBounds]
     by_cases hs:j<L.size
     ·simp [hs]
     ·simp [hs]
    ·rw [if_neg e]
     simp only [Array.getD_eq_getD_getElem?,Array.getElem?_setIfInBounds]
     rw [if_neg (fun h=>e h.symm)]
   have h1:=ih.1
   by_cases e:j=i
   ·subst e
    rw [if_pos rfl] at hj
    rw [List.filter_cons_of_neg (by rw [hj];decide),List.filter_cons_of_pos (by rw [h];rfl),List.length_cons]
    exact ⟨by omega,fun _=>by omega⟩
   ·rw [if_neg e] at hj
    have h2:=ih.2
    cases hL:L.getD j true
    ·rw [List.filter_cons_of_pos (by rw [hj,hL];rfl),List.filter_cons_of_pos (by rw [hL];rfl),List.length_cons,List.length_cons]
     exact ⟨by omega,fun hm=>by have:=h2 (by rcases List.mem_cons.1 hm with h | h;exact absurd h.symm e;exact h);omega⟩
    ·rw [List.filter_cons_of_neg (by rw [hj,hL];decide),List.filter_cons_of_neg (by rw [hL];decide)]
     exact ⟨h1,fun hm=>h2 (by rcases List.mem_cons.1 hm with h | h;exact absurd h.symm e;exact h)⟩
 exact (hsub _).2 (List.mem_range.2 hi)
theorem wpAny_inv {P:Program} {ops:Array Oper} {Q:Exit→Act→World→Prop} {I:Array Bool→Act→World→Prop} (hs:StepsI P ops Q I 0)
 (he:∀ L a w,I L a w→Region.ready .any ops L=[]→Q .normal a w):∀ (fuel:Nat) L a w,left ops.size L≤fuel→I L a w→wpAny P .any ops Q fuel L a w
 | 0,L,a,w,hf,hI=>by
  have hr:Region.ready .any ops L=[]:=List.eq_nil_iff_forall_not_mem.2 fun i hi=>by
   obtain ⟨hL,o,ho,_⟩:=mem_ready.1 hi
   have:=left_next (Array.getElem?_eq_some_iff.1 ho).1 hL
   omega
  exact ⟨hr,he L a w hI hr⟩
 | fuel+1,L,a,w,hf,hI=>by
  refine ⟨fun h=>he L a w hI h,fun i hi=>?_⟩
  obtain ⟨hL,o,ho,_⟩:=mem_ready.1 hi
  have hi':=(Array.getElem?_eq_some_iff.1 ho).1
  have hlt:=left_next hi' hL
  exact wpOp_mono (fun a' w' h=>wpAny_inv hs he fuel _ a' w' (by omega) h) (hs i (Nat.zero_le _) hi' L a w hI hi)
theorem wp_region_inv {P:Program} {ops:Array Oper} {Q:Exit→Act→World→Prop} {id:Nat} {a:Act} {w:World} (I:Array Bool→Act→World→Prop) (hm:P.follows .mixedOrders=true)
 (h0:I (Array.replicate ops.size false) a w.drew) (hs:StepsI P ops Q I 0) (he:∀ L a w,I L a w→Region.ready .any ops L=[]→Q .normal a w):(Code.region id ops true).wp P Q a w :=
 wp_region_any hm (wpAny_inv hs he _ _ _ _ (by
  unfold left
  refine Nat.le_trans (List.length_filter_le _ _) ?_
  simp) h0)
def forthB (ops:Array Oper):Bool:=(List.range ops.size).all fun i=>match ops[i]? with | some o=>o.after.all fun e=>!Region.binds .any e || decide (e.on<i) | none=>true
theorem all_up {ops:Array Oper} {L:Array Bool} (hf:forthB ops=true) {N:Nat} (hN:ops.size=N) (hr:Region.ready .any ops L=[]):∀ i,i<N→L.getD i false=true∨L.size≤i:=by
 subst hN
 intro i
 induction i using Nat.strongRecOn with
 | ind i ih =>
  intro hi
  by_cases hs:L.size≤i
  ·exact .inr hs
  ·refine .inl ?_
   cases hL:L.getD i false with
   | true=>rfl
   | false =>
    exfalso
    have hL':L.getD i true=false:=by
     simp only [Array.getD_eq_getD_getElem?] at hL ⊢
     rw [Array.getElem?_eq_getElem (by omega)] at hL ⊢
     exact hL
    have hf':=List.all_eq_true.1 hf i (List.mem_range.2 hi)
    rw [Array.getElem?_eq_getElem hi] at hf'
    have:i∈Region.ready .any ops L:=mem_ready.2 ⟨hL',ops[i],Array.getElem?_eq_getElem hi,fun e he hbd=>by
     have h0:=Array.all_eq_true'.1 hf' e he
     rw [hbd] at h0
     have h1:=of_decide_eq_true (by simpa using h0:decide (e.on<i)=true)
     rcases ih e.on h1 (by omega) with h | h
     ·exact h
     ·omega⟩
    rw [hr] at this
    cases this
def puts (a:Act):List (Nat × Value)→Act
 | []=>a
 | (t,v) :: l=>puts (a.put (some t) v) l
theorem yRQ {P:Program} {ops:Array Oper} {Q:Exit→Act→World→Prop} {id:Nat} {a:Act} {w:World} (I:Act→Array Bool→Act→World→Prop) (hm:P.follows .mixedOrders=true)
 (h0:I a (Array.replicate ops.size false) a w.drew) (hs:StepsI P ops Q (I a) 0) (he:∀ L a' v,I a L a' v→Region.ready .any ops L=[]→Q .normal a' v):(Code.region id ops true).wp P Q a w :=
 wp_region_inv (I a) hm h0 hs he
def A.blocks:A→List Nat
 | .node _ _ _ a c kk=>(Value.slice a kk.length c).ownBlock.toList++feet kk
theorem A.mine.lt {w:World} {B:Nat} {x:A} (h:x.mine w B) {q:Nat} (hq:q∈x.blocks):B≤q∧q<w.heap.size:=by
 obtain ⟨k,s,m,a,c,kk⟩:=x
 rcases List.mem_append.1 hq with hq | hq
 ·exact h.1.own.lt q (by simpa using hq)
 ·exact ⟨h.1.new.2 q hq,SitsL.lt h.1.sits q hq⟩
theorem A.mine.kept {w w':World} {B p:Nat} {x:A} (h:x.mine w B) (hg:w.grownBy w' (some p)) (hp:p ∉ x.blocks):x.mine w' B:=by
 obtain ⟨k,s,m,a,c,kk⟩:=x
 have lt:=SitsL.lt h.1.sits
 simp only [A.blocks,List.mem_append,not_or] at hp
 refine ⟨⟨h.1.own.kept hg ?_,h.1.sits.stay fun q hq=>hg.block q (lt q hq) fun e=>?_,h.1.new,h.1.apart⟩,h.2⟩
 ·exact .inr fun e=>hp.1 (by rw [e];simp)
 ·cases e;exact hp.2 hq
theorem A.mine.foot {w:World} {B:Nat} {x:A} (h:x.mine w B) {q:Nat} (hq:q∈x.foot):q∈x.blocks:=by
 obtain ⟨k,s,m,a,c,kk⟩:=x
 simp only [A.foot] at hq
 rcases List.mem_append.1 hq with hq | hq
 ·refine List.mem_append.2 (.inl ?_)
  rcases h.1.own.2 with ⟨e,h0⟩ | ⟨g,cap,cur,e,_⟩
  ·rw [if_pos h0] at hq;cases hq
  ·rw [e]
   simp at e
   rw [e.1] at hq
   split at hq
   ·cases hq
   ·simpa [zVQ,Value.ownBlock] using hq
 ·exact List.mem_append.2 (.inr hq)
def varA (s:ByteArray):A:=.node 2 s 0 none 0 []
def zeroN:Array Value:=#[.int .i64 0,.string ⟨#[]⟩,.int .i64 0,.slice none 0 0]
structure LoopI (w1 v:World) (s:ByteArray) (t:T) (b7 b8 b10 b11:Bool) (xb:A) (bc X:Nat):Prop where
 bel:Below w1.heap.size w1 v
 tree:b7=true→xb.mine v w1.heap.size∧xb.erase=t
 row:b8=true→b7=true∧w1.heap.size≤bc∧bc ∉ xb.blocks∧v.heap[bc]?=some (.cells (xqQ [varA s,xb]).toArray 31 (0,0))
 ord:b11=true→b8=true∧b10=true
 box:b10=true→w1.heap.size≤X∧(b7=true→X ∉ xb.blocks)∧(b8=true→X≠bc)∧v.heap[X]?=some (.cells (if b11=true then #[.int .i64 11,.string ⟨#[]⟩,.int .i64 0,.slice (some ⟨bc,0,none⟩) 2 2] else zeroN) 31 (0,0))
section
variable {w1 v v':World} {s:ByteArray} {t:T} {b7 b8 b10 b11:Bool} {xb:A} {bc X:Nat}
theorem xiQ {w:World} {b:Nat} {o:Obj} (h:w.heap[b]?=some o):b<w.heap.size:=(Array.getElem?_eq_some_iff.1 h).1
theorem LoopI.start (h:Below w1.heap.size w1 v):LoopI w1 v s t false false false false xb bc X:=⟨h,fun e=>ft e,fun e=>ft e,fun e=>ft e,fun e=>ft e⟩
theorem LoopI.below (h:LoopI w1 v s t b7 b8 b10 b11 xb bc X) (hb:Below v.heap.size v v'):LoopI w1 v' s t b7 b8 b10 b11 xb bc X :=
 ⟨xbQ h.bel hb,fun e=>⟨(h.tree e).1.below hb,(h.tree e).2⟩,fun e=>⟨(h.row e).1,(h.row e).2.1,(h.row e).2.2.1,(hb.block bc (xiQ (h.row e).2.2.2)).trans (h.row e).2.2.2⟩,h.ord,
  fun e=>⟨(h.box e).1,(h.box e).2.1,(h.box e).2.2.1,(hb.block X (xiQ (h.box e).2.2.2)).trans (h.box e).2.2.2⟩⟩
theorem LoopI.called {x:A} (h:LoopI w1 v s t false b8 b10 b11 xb bc X) (hb:Below v.heap.size v v') (hx:x.mine v' v.heap.size) (he:x.erase=t):LoopI w1 v' s t true b8 b10 b11 x bc X:=by
 have h8:b8=true→False:=fun e=>by have:=(h.row e).1;cases this
 refine ⟨xbQ h.bel hb,fun _=>⟨hx.mono h.bel.size,he⟩,fun e=>(h8 e).elim,h.ord,fun e=>⟨(h.box e).1,fun _ hq=>?_,fun e=>(h8 e).elim,(hb.block X (xiQ (h.box e).2.2.2)).trans (h.box e).2.2.2⟩⟩
 have:=(hx.lt hq).1
 have:=xiQ (h.box e).2.2.2
 omega
theorem LoopI.laid (h:LoopI w1 v s t true false b10 b11 xb bc X):LoopI w1 (v.alloc (.cells (xqQ [varA s,xb]).toArray 31)) s t true true b10 b11 xb v.heap.size X:=by
 obtain rfl:b11=false:=by cases b11 with | false=>rfl | true=>exact tf (h.ord rfl).1.symm
 have hb:Below v.heap.size v (v.alloc (.cells (xqQ [varA s,xb]).toArray 31)):=(Below.refl _ _).alloc (Nat.le_refl _) _
 have h':=h.below hb
 refine ⟨h'.bel,h'.tree,fun _=>⟨rfl,h.bel.size,fun hq=>?_,heap_alloc_new _ _⟩,fun e=>ft e,fun e=>⟨(h.box e).1,(h.box e).2.1,fun _ e2=>?_,?_⟩⟩
 ·have:=((h.tree rfl).1.lt hq).2;omega
 ·have:=xiQ (h.box e).2.2.2;omega
 ·have:=(h'.box e).2.2.2
  rw [if_neg (by decide)] at this ⊢
  exact this
theorem LoopI.boxed (h:LoopI w1 v s t b7 b8 false b11 xb bc X):LoopI w1 (v.alloc (.cells zeroN 31)) s t b7 b8 true b11 xb bc v.heap.size:=by
 obtain rfl:b11=false:=by cases b11 with | false=>rfl | true=>exact tf (h.ord rfl).2.symm
 have hb:Below v.heap.size v (v.alloc (.cells zeroN 31)):=(Below.refl _ _).alloc (Nat.le_refl _) _
 have h':=h.below hb
 refine ⟨h'.bel,h'.tree,h'.row,fun e=>ft e,fun _=>⟨h.bel.size,fun e hq=>?_,fun e e2=>?_,?_⟩⟩
 ·have:=((h.tree e).1.lt hq).2;omega
 ·have:=xiQ (h.row e).2.2.2;omega
 ·rw [if_neg (by decide)];exact heap_alloc_new _ _
theorem LoopI.stored (h:LoopI w1 v s t true true true false xb bc X):LoopI w1 (put4 v X (.int .i64 11) (.string ⟨#[]⟩) (.int .i64 0) (.slice (some ⟨bc,0,none⟩) 2 2)) s t true true true true xb bc X:=by
 obtain ⟨h1,h2,h3,h4⟩:=h.box rfl
 obtain ⟨r1,r2,r3,r4⟩:=h.row rfl
 rw [if_neg (by decide)] at h4
 refine ⟨xUQ h.bel h1 _ _ _ _,fun _=>⟨(h.tree rfl).1.kept (put4_grown v X _ _ _ _) (h2 rfl),(h.tree rfl).2⟩,fun _=>⟨rfl,r2,r3,(xLQ _ _ _ _ (fun e=>h3 rfl e.symm)).trans r4⟩,fun _=>⟨rfl,rfl⟩,fun _=>⟨h1,h2,h3,?_⟩⟩
 rw [if_pos rfl]
 exact zLQ h4 _ _ _ _
theorem LoopI.cond (h:LoopI w1 v s t true true true true xb bc X) (hs:s.size≤maxLen):∃ x:A,x.val=.agg #[.int .i64 11,.string ⟨#[]⟩,.int .i64 0,.slice (some ⟨bc,0,none⟩) 2 2]∧x.cells=[.int .i64 11,.string ⟨#[]⟩,.int .i64 0,.slice (some ⟨bc,0,none⟩) 2 2]∧x.erase=.node 11 ⟨#[]⟩ 0 [varT s,t]∧x.mine v w1.heap.size∧X ∉ x.blocks:=by
 obtain ⟨h1,h2,h3,h4⟩:=h.box rfl
 obtain ⟨r1,r2,r3,r4⟩:=h.row rfl
 obtain ⟨m1,m2⟩:=h.tree rfl
 have mt:=m1.tree
 have hf:feet [varA s,xb]=xb.foot:=by simp [feet,varA,A.foot]
 refine ⟨.node 11 ⟨#[]⟩ 0 (some ⟨bc,0,none⟩) 2 [varA s,xb],rfl,rfl,by rw [erase2,m2];rfl,⟨⟨⟨by rw [zrQ],.inr ⟨bc,2,_,rfl,r2,r4,Nat.le_refl 2,by simp [maxLen],by rw [List.size_toArray,zrQ];rfl,by rw [show [varA s,xb].length * 4=(xqQ [varA s,xb]).length by rw [zrQ]];simp⟩⟩,⟨(yVQ v 0 hs).tree.1,mt.1,trivial⟩,?_,?_⟩,by decide,by simp [maxLen]⟩,?_⟩
 ·unfold NewL;rw [hf];exact mt.2.1
 ·intro g e hq
  simp [Value.ownBlock] at e
  subst e
  rw [hf] at hq
  exact r3 (m1.foot hq)
 ·simp only [A.blocks,List.mem_append,hf,not_or]
  exact ⟨by simp [Value.ownBlock];exact h3 rfl,fun hq=>h2 rfl (m1.foot hq)⟩
end
end Go.Proofs.YtocbgbkdlfkjjaaGreatDoor
