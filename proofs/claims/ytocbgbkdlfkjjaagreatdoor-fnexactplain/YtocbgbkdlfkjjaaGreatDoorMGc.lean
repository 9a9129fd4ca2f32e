/- CONTRACT of the specification's l03Right. -/
import Derived.Test.YtocbgbkdlfkjjaaGreatDoorMDj
import Derived.Test.YtocbgbkdlfkjjaaGreatDoorMCj
import Derived.Test.YtocbgbkdlfkjjaaGreatDoorMDi
import Derived.Test.YtocbgbkdlfkjjaaGreatDoorMGa
set_option maxRecDepth 100000
namespace Go.Proofs.YtocbgbkdlfkjjaaGreatDoor
open Go.RowKit
open Pl
theorem fldC (z:Int) (s:ByteArray) (w:World):(Instr.field 27 (.agg #[.int .i64 z,.string s]) 0).run Tryz.prog w=.ok (.int .i64 z) w:=by kernel_rfl
set_option maxHeartbeats 1600000 in
theorem sRight_any (k:Int) (s:ByteArray) (m:Int) (kk:List T) (a:Option Addr) (c:Nat) (w:World) (hs:s.size≤maxLen) (hn:kk.length≤maxLen) (hcn:cnt (.node k s m kk)≤1048577) (hk:Kids w 0 a kk) :
 Calls Tryz.prog 47 #[.agg #[.int .i64 k,.string s,.int .i64 m,.slice a kk.length c]] w fun e w'=>e=.returned (.bool (decide ((trb (.node k s m kk)).1=0)))∧Below w.heap.size w w':=by
 have B0:=xaQ ((Below.refl w.heap.size w).alloc (Nat.le_refl _) (.cells #[.int .i64 k,.string s,.int .i64 m,.slice a kk.length c] 31))
 have HC:=xaQ (fun W (hW:Below w.heap.size w W)=>sCheck_any k s m kk a c W hs hn hcn (hk.below hW))
 generalize trb (.node k s m kk)=tr at HC ⊢
 obtain ⟨cd,nm⟩:=tr
 clear hs hn hcn hk
 by_cases h0:cd=0
 ·subst h0
  have hfl:=fldC
  go_enter Tryz.func47,Tryz.ntmps47
  go_wp2_with (go_at_call 11;refine (HC.out _ B0.out).mono ?_;rintro e w1 ⟨rfl,hb1⟩)
  go_ret
  exact ⟨rfl,xbQ B0.out hb1⟩
 ·have h1:(cd == 0)=false:=by simpa using h0
  rw [decide_eq_false h0]
  have hfl:=fldC
  go_enter Tryz.func47,Tryz.ntmps47
  go_wp2_with (go_at_call 11;refine (HC.out _ B0.out).mono ?_;rintro e w1 ⟨rfl,hb1⟩)
  go_ret
  exact ⟨rfl,xbQ B0.out hb1⟩
theorem yZQ {k m:Int} {s:ByteArray} {kk:List T} (h:(trb (.node k s m kk)).1=0):k=40∧s=⟨#[]⟩∧m=0∧∃ (D:List T) (B:T),kk=D++[B]∧D.length≤498∧Dk D∧(∀ t∈D,xeQ t=true):=by
 cases hok:okP (.node k s m kk) with
 | false =>
  unfold trb at h
  rw [hok] at h
  simp at h
 | true =>
  obtain ⟨hk40,hcm,hfm⟩:=zNQ hok
  obtain rfl:k=40:=hk40
  obtain ⟨rfl,rfl,D,B,rfl,hD,_,_,hDf⟩:=zEQ hfm
  refine ⟨rfl,rfl,rfl,D,B,rfl,?_,hD,hDf⟩
  have h1:=ywQ (D++[B])
  simp only [cnt] at hcm
  rw [List.length_append,List.length_singleton] at h1
  omega
end Go.Proofs.YtocbgbkdlfkjjaaGreatDoor
namespace Go.Proofs.YtocbgbkdlfkjjaaGreatDoor
open Go.RowKit
open Pl
def plainP (t:T):T:=if (trb t).1=0 then plnT t else .node 0 ⟨#[]⟩ 0 []
theorem plain_cnt (t:T):cnt (plainP t)≤4001:=by
 unfold plainP
 split
 ·rename_i h0
  cases hok:okP t with
  | false =>
   unfold trb at h0
   rw [hok] at h0
   simp at h0
  | true =>
   obtain ⟨hk40,hcm,_⟩:=zNQ hok
   obtain ⟨k,s,m,kk⟩:=t
   have:=plnL_cnt (kk:=kk) (fun t _=>(pln_cnt t).2)
   simp only [plnT,cnt] at hcm ⊢
   omega
 ·simp [cnt,cnts]
theorem mine_put4 {w:World} {B:Nat} {x:A} (h:x.mine w B) {p:Nat} (hp:p<B) (v0 v1 v2 v3:Value):x.mine (put4 w p v0 v1 v2 v3) B:=h.put4 hp v0 v1 v2 v3
set_option maxHeartbeats 6400000 in
theorem sPlainT_any (k:Int) (s:ByteArray) (m:Int) (kk:List T) (a:Option Addr) (c:Nat) (w:World) (hs:s.size≤maxLen) (hn:kk.length≤maxLen) (hcn:cnt (.node k s m kk)≤1048577) (hk:Kids w 0 a kk) :
 Calls Tryz.prog 16 #[.agg #[.int .i64 k,.string s,.int .i64 m,.slice a kk.length c]] w (TPost (plainP (.node k s m kk)) w):=by
 have B1:Below w.heap.size w ((w.alloc (.cells #[.int .i64 k,.string s,.int .i64 m,.slice a kk.length c] 31)).alloc (.cells #[.int .i64 0,.string ⟨#[]⟩,.int .i64 0,.slice none 0 0] 31)):=((Below.refl w.heap.size w).alloc (Nat.le_refl _) _).alloc (by simp) _
 have F0:=Four.new w k s m a kk.length c 31
 have F1:=F0.below ((Below.refl _ _).alloc (Nat.le_refl _) (.cells #[.int .i64 0,.string ⟨#[]⟩,.int .i64 0,.slice none 0 0] 31))
 have h0:=heap_alloc_new (w.alloc (.cells #[.int .i64 k,.string s,.int .i64 m,.slice a kk.length c] 31)) (.cells #[.int .i64 0,.string ⟨#[]⟩,.int .i64 0,.slice none 0 0] 31)
 have hsz:(w.alloc (.cells #[.int .i64 k,.string s,.int .i64 m,.slice a kk.length c] 31)).heap.size=w.heap.size+1:=by simp
 rw [hsz] at h0
 obtain ⟨P,hP⟩:∃ q,w.heap.size=q:=⟨_,rfl⟩
 obtain ⟨w1,hw1⟩:∃ q,(w.alloc (.cells #[.int .i64 k,.string s,.int .i64 m,.slice a kk.length c] 31)).alloc (.cells #[.int .i64 0,.string ⟨#[]⟩,.int .i64 0,.slice none 0 0] 31)=q:=⟨_,rfl⟩
 rw [hw1] at h0 F1 B1
 rw [hP] at h0 F1
 have HB:=xaQ B1
 have HFP:Hid (∀ W,Below w1.heap.size w1 W→Four W P k s m a kk.length c):=xaQ (fun W hW=>F1.below hW)
 obtain ⟨p0,p1,p2,p3⟩:=F1
 have HR:Hid (∀ W,Below w1.heap.size w1 W→W.heap[P+1]?=some (.cells #[.int .i64 0,.string ⟨#[]⟩,.int .i64 0,.slice none 0 0] 31 (0,0))):=xaQ (fun W hW=>(hW.block (P+1) (xiQ h0)).trans h0)
 have hlt:P+1<w1.heap.size:=xiQ h0
 have HRT:=xaQ (fun W (hW:Below w1.heap.size w1 W)=>sRight_any k s m kk a c W hs hn hcn (hk.below (xbQ B1 hW)))
 have HK:=xaQ (hk.below B1)
 clear hk h0 B1
 by_cases hr:(trb (.node k s m kk)).1=0
 ·have HT:=xaQ (show plainP (.node k s m kk)=plnT (.node k s m kk) by unfold plainP;rw [if_pos hr])
  rw [decide_eq_true hr] at HRT
  obtain ⟨rfl,rfl,rfl,D,B,rfl,hl,hD,hDf⟩:=yZQ hr
  have hlen:(D++[B]).length=D.length+1:=by simp
  obtain ⟨hBk,hBf,hct⟩:xdQ B=30∧xeQ B=true∧cnts (D++[B])≤499:=by
   cases hok:okP (.node 40 ⟨#[]⟩ 0 (D++[B])) with
   | false =>
    unfold trb at hr
    rw [hok] at hr
    simp at hr
   | true =>
    obtain ⟨_,hcm,hfm⟩:=zNQ hok
    obtain ⟨_,_,D',B',e,_,h1,h2,_⟩:=zEQ hfm
    obtain ⟨_,e2⟩:=List.append_inj' e rfl
    cases e2
    simp only [cnt] at hcm
    exact ⟨h1,h2,by omega⟩
  have HPP:=xaQ (fun W (hW:Below w1.heap.size w1 W)=>sPlainProg_any ⟨#[]⟩ 0 D B hD hDf hBk hBf hct a c W (HK.out.below hW))
  have HT2:Hid (plainP (.node 40 ⟨#[]⟩ 0 (D++[B]))=T.node 40 ⟨#[]⟩ 0 (plnL (D++[B]))):=xaQ (by rw [HT.out];simp only [plnT])
  rw [hlen] at HRT HFP p3 hw1 F0 hsz
  rw [hlen]
  clear hs hn hcn hr hBk hBf hct hD hDf HT
  go_enter Tryz.func16,Tryz.ntmps16
  go_upto_region 3 with (go_at_call 47;refine (HRT.out _ (Below.refl _ _)).mono ?_;rintro e w2 ⟨rfl,hb2⟩)
  obtain ⟨r0,r1,r2,r3⟩:=HFP.out _ hb2
  clear p0 p1 p2 p3
  go_wp2_with (go_at_call 41;refine (HPP.out _ hb2).mono ?_;rintro e w3 ⟨x,rfl,hx,hxm,hb3⟩;obtain ⟨xk,xs,xm,xa,xc,xkk⟩:=x;simp only [A.val];obtain ⟨c0,c1,c2,c3,f0,f1,f2,f3⟩:=xcQ (HR.out _ (xbQ hb2 hb3)))
  have b3:=xbQ hb2 hb3
  obtain ⟨q0,q1,q2,q3⟩:=xhQ (HR.out _ b3) (.int .i64 xk) (.string xs) (.int .i64 xm) (.slice xa xkk.length xc)
  have hz:=hb2.size
  have hz2:=HB.out.size
  have hxm2:(A.node xk xs xm xa xc xkk).mine (put4 w3 (P+1) (.int .i64 xk) (.string xs) (.int .i64 xm) (.slice xa xkk.length xc)) w.heap.size:=(hxm.put4 (by omega) _ _ _ _).mono (by omega)
  have he:TPost (plainP (.node 40 ⟨#[]⟩ 0 (D++[B]))) w (.returned (A.node xk xs xm xa xc xkk).val) _:=⟨_,rfl,hx.trans HT2.out.symm,hxm2,xUQ (xbQ HB.out b3) (show w.heap.size≤P+1 by omega) _ _ _ _⟩
  exact bodyPost_ret (v:=(A.node xk xs xm xa xc xkk).val) (by simp [results,Tryz.results16,go_sem,q0,q1,q2,q3,A.val]) rfl he
 ·have HT:=xaQ (show plainP (.node k s m kk)=.node 0 ⟨#[]⟩ 0 [] by unfold plainP;rw [if_neg hr])
  rw [decide_eq_false hr] at HRT
  rw [HT.out]
  clear hs hn hcn hr
  go_enter Tryz.func16,Tryz.ntmps16
  go_wp2_with (go_at_call 47;refine (HRT.out _ (Below.refl _ _)).mono ?_;rintro e w2 ⟨rfl,hb2⟩;obtain ⟨c0,c1,c2,c3,f0,f1,f2,f3⟩:=xcQ (HR.out _ hb2))
  obtain ⟨q0,q1,q2,q3⟩:=xhQ (HR.out _ hb2) (.int .i64 0) (.string ⟨#[]⟩) (.int .i64 0) (.slice none 0 0)
  have he:TPost (.node 0 ⟨#[]⟩ 0 []) w (.returned zeroA.val) _:=⟨zeroA,rfl,by simp [zeroA,A.erase,xmQ],yVQ _ _ (by decide),xUQ (xbQ HB.out hb2) (show w.heap.size≤P+1 by omega) (.int .i64 0) (.string ⟨#[]⟩) (.int .i64 0) (.slice none 0 0)⟩
  exact bodyPost_ret (v:=zeroA.val) (by simp [results,Tryz.results16,go_sem,q0,q1,q2,q3,A.val,zeroA]) rfl he
set_option maxHeartbeats 6400000 in
theorem iPlainT_any (k:Int) (s:ByteArray) (m:Int) (kk:List T) (a:Option Addr) (c:Nat) (w:World) (hs:s.size≤maxLen) (hn:kk.length≤maxLen) (hcap:kk.length≤c) (hc9:c≤maxLen) (hk:Kids w 0 a kk) (htab:Lib.TabIs Tryz.prog w "internal/strconv.uint64pow10" .u64 Lib.pow10Tab) :
 Calls Tryz.prog 17 #[.agg #[.int .i64 k,.string s,.int .i64 m,.slice a kk.length c]] w (TPost (plainP (.node k s m kk)) w):=by
 obtain ⟨gg,hgn⟩:=Option.isSome_iff_exists.1 (show (Tryz.prog.globalNamed "internal/strconv.uint64pow10").isSome=true by kernel_rfl)
 have B1:Below w.heap.size w ((w.alloc (.cells #[.int .i64 k,.string s,.int .i64 m,.slice a kk.length c] 31)).alloc (.cells #[.int .i64 0,.string ⟨#[]⟩,.int .i64 0,.slice none 0 0] 31)):=((Below.refl w.heap.size w).alloc (Nat.le_refl _) _).alloc (by simp) _
 have h0:=heap_alloc_new (w.alloc (.cells #[.int .i64 k,.string s,.int .i64 m,.slice a kk.length c] 31)) (.cells #[.int .i64 0,.string ⟨#[]⟩,.int .i64 0,.slice none 0 0] 31)
 have hsz:(w.alloc (.cells #[.int .i64 k,.string s,.int .i64 m,.slice a kk.length c] 31)).heap.size=w.heap.size+1:=by simp
 have F1:=(Four.new w k s m a kk.length c 31).below ((Below.refl _ _).alloc (Nat.le_refl _) (.cells #[.int .i64 0,.string ⟨#[]⟩,.int .i64 0,.slice none 0 0] 31))
 rw [hsz] at h0
 obtain ⟨P,hP⟩:∃ q,w.heap.size=q:=⟨_,rfl⟩
 obtain ⟨w1,hw1⟩:∃ q,(w.alloc (.cells #[.int .i64 k,.string s,.int .i64 m,.slice a kk.length c] 31)).alloc (.cells #[.int .i64 0,.string ⟨#[]⟩,.int .i64 0,.slice none 0 0] 31)=q:=⟨_,rfl⟩
 rw [hw1] at h0 F1 B1
 rw [hP] at h0 F1
 have HB:=xaQ B1
 obtain ⟨p0,p1,p2,p3⟩:=F1
 have HR:Hid (∀ W,Below w1.heap.size w1 W→W.heap[P+1]?=some (.cells #[.int .i64 0,.string ⟨#[]⟩,.int .i64 0,.slice none 0 0] 31 (0,0))):=xaQ (fun W hW=>(hW.block (P+1) (xiQ h0)).trans h0)
 have hlt:P+1<w1.heap.size:=xiQ h0
 have HPO:=xaQ (plainOf_any k s m kk a c w1 hs hn hcap hc9 (hk.below B1) (Joins.tab_stays hgn htab B1 (Nat.le_refl _)))
 clear hk h0 B1 htab hgn hs hn hcap hc9
 have HE:Hid (∀ x:A,((trb (.node k s m kk)).1=0→x.erase=plnT (.node k s m kk))→((trb (.node k s m kk)).1≠0→x=zeroA)→x.erase=plainP (.node k s m kk)):=xaQ (fun x h1 h2=>by
  unfold plainP
  by_cases hr:(trb (.node k s m kk)).1=0
  ·rw [if_pos hr];exact h1 hr
  ·rw [if_neg hr,h2 hr];simp [zeroA,A.erase,xmQ])
 generalize errOf (trb (.node k s m kk))=er at HPO
 go_enter Tryz.func17,Tryz.ntmps17
 go_wp2_with fail
 refine HPO.out.mono ?_
 rintro e w2 ⟨x,rfl,hx1,hx2,hxm,hb2⟩
 have hx:=HE.out x hx1 hx2
 obtain ⟨xk,xs,xm,xa,xc,xkk⟩:=x
 simp only [A.val]
 have hb3:Below w1.heap.size w1 (w2.alloc (.cells #[.int .i64 xk,.string xs,.int .i64 xm,.slice xa xkk.length xc] 31)):=hb2.alloc hb2.size _
 obtain ⟨c0,c1,c2,c3,f0,f1,f2,f3⟩:=xcQ (HR.out _ hb3)
 have HX:=xaQ (And.intro hx hxm)
 clear hx1 hx2 hx hxm
 go_wp2
 obtain ⟨hx,hxm⟩:=HX.out
 obtain ⟨q0,q1,q2,q3⟩:=xhQ (HR.out _ hb3) (.int .i64 xk) (.string xs) (.int .i64 xm) (.slice xa xkk.length xc)
 have hz:=hb2.size
 have hz2:=HB.out.size
 have hxm2:(A.node xk xs xm xa xc xkk).mine (put4 (w2.alloc (.cells #[.int .i64 xk,.string xs,.int .i64 xm,.slice xa xkk.length xc] 31)) (P+1) (.int .i64 xk) (.string xs) (.int .i64 xm) (.slice xa xkk.length xc)) w.heap.size:=((hxm.below ((Below.refl _ _).alloc (Nat.le_refl _) (.cells #[.int .i64 xk,.string xs,.int .i64 xm,.slice xa xkk.length xc] 31))).put4 (by omega) _ _ _ _).mono (by omega)
 have he:TPost (plainP (.node k s m kk)) w (.returned (A.node xk xs xm xa xc xkk).val) _:=⟨_,rfl,hx,hxm2,xUQ (xbQ HB.out hb3) (show w.heap.size≤P+1 by omega) _ _ _ _⟩
 exact bodyPost_ret (v:=(A.node xk xs xm xa xc xkk).val) (by simp [results,Tryz.results17,go_sem,q0,q1,q2,q3,A.val]) rfl he
end Go.Proofs.YtocbgbkdlfkjjaaGreatDoor
