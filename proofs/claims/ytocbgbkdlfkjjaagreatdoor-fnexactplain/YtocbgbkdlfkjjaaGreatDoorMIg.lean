/- CONTRACTS of the specification's ProgOk and Print. -/
import Derived.Test.YtocbgbkdlfkjjaaGreatDoorMHr
import Derived.Test.YtocbgbkdlfkjjaaGreatDoorMIj
import Derived.Test.YtocbgbkdlfkjjaaGreatDoorMIf
import Derived.Test.YtocbgbkdlfkjjaaGreatDoorMHh
set_option maxRecDepth 100000
namespace Go.Proofs.YtocbgbkdlfkjjaaGreatDoor
open Go.RowKit
open Pl
theorem sEx_ok (t:T):SEx t:=by
 refine T.induct ?_ t
 intro k s m kk IH a c w hg
 obtain ⟨hs,sh⟩:=xOQ hg
 have go:SEx (.node k s m kk):=by
  cases sh with
  | num h hk h0 h1 =>
   subst h hk
   obtain ⟨n,hn⟩:∃ n:Nat,m=n:=⟨m.toNat,by omega⟩
   subst hn
   exact sEx_num s n (by omega)
  | var h hk=>subst h hk;exact sEx_var s m
  | len h hk=>subst h hk;exact sEx_len s m
  | cell h x hk hx=>subst h hk;exact sEx_cell s m x (IH x (by simp)) hx
  | neg h x hk hx=>subst h hk;exact sEx_neg s m x (IH x (by simp)) hx
  | pair h x y hk hx hy =>
   subst hk
   rcases h with rfl | rfl | rfl
   ·exact sEx_pair6 s m x y (IH x (by simp)) (IH y (by simp)) hx hy
   ·exact sEx_pair7 s m x y (IH x (by simp)) (IH y (by simp)) hx hy
   ·exact sEx_pair8 s m x y (IH x (by simp)) (IH y (by simp)) hx hy
  | cond h x y hk hx hy=>subst hk;exact sEx_cond k (k - 11).toNat (by omega) (by omega) s m x y (IH x (by simp)) (IH y (by simp)) hx hy
 exact go a c w hg
def zIQ (t:T):ByteArray:=lnS t ⟨#[]⟩
def okP (t:T):Bool:=decide (xdQ t=40) && fitsS t && decide (zIQ t≠⟨#[]⟩) && decide ((xkQ (zIQ t)).2.1=0)
def printP (t:T):ByteArray:=if okP t then zIQ t else ⟨#[]⟩
theorem words_long {s:ByteArray} (h:4000<s.size):(xkQ s).2.1≠0:=by unfold xkQ;rw [if_pos h];decide
theorem parse_words {s:ByteArray} (h:(xkQ s).2.1≠0):(yTQ s).2.1≠0:=by unfold yTQ;rw [if_pos h];exact h
theorem yOQ {t:T} (h:fitsS t=true):cnt t≤500∧dep t≤24∧xeQ t=true:=by
 unfold fitsS at h
 simp at h
 exact ⟨h.1.1,h.1.2,h.2⟩
theorem parse_code {t:T} (hk:xdQ t=40) (hf:fitsS t=true):(decide ((yTQ (zIQ t)).2.1=0))=decide ((xkQ (zIQ t)).2.1=0):=by
 obtain ⟨f1,f2,f3⟩:=yOQ hf
 obtain ⟨k,s,m,kk⟩:=t
 have hk':k=40:=hk
 subst hk'
 by_cases hw:(xkQ (zIQ (.node 40 s m kk))).2.1=0
 ·rw [decide_eq_true hw]
  unfold zIQ at hw ⊢
  rw [print_parse f3 f1 f2 hw]
  rfl
 ·rw [decide_eq_false hw,decide_eq_false (parse_words hw)]
set_option maxHeartbeats 4000000 in
theorem sProgOk_any (k:Int) (s:ByteArray) (m:Int) (kk:List T) (a:Option Addr) (c:Nat) (w:World) (hs:s.size≤maxLen) (hn:kk.length≤maxLen) (hc:cnt (.node k s m kk)≤1048577) (hk:Kids w 0 a kk) :
    Calls Tryz.prog 38 #[.agg #[.int .i64 k,.string s,.int .i64 m,.slice a kk.length c]] w fun e w'=>e=.returned (.bool (okP (.node k s m kk)))∧Below w.heap.size w w':=by
 have HF:=xaQ (fun W (hW:Below w.heap.size w W)=>sFits_ok k s m kk a c W hs hn hc (hk.below hW))
 have HK:=xaQ hk
 have B0:=xaQ ((Below.refl w.heap.size w).alloc (Nat.le_refl _) (.cells #[.int .i64 k,.string s,.int .i64 m,.slice a kk.length c] 31))
 have F0:=xaQ (Four.new w k s m a kk.length c 31)
 by_cases hk0:k=40
 ·subst hk0
  have HP:=xaQ (show okP (.node 40 s m kk)=(fitsS (.node 40 s m kk) && decide (zIQ (.node 40 s m kk)≠⟨#[]⟩) && decide ((xkQ (zIQ (.node 40 s m kk))).2.1=0)) from by unfold okP;rw [show xdQ (.node 40 s m kk)=40 from rfl];simp)
  have HC:=xaQ (fun h=>parse_code (t:=.node 40 s m kk) rfl h)
  have HL:=xaQ (fun (h:fitsS (.node 40 s m kk)=true) W (hW:Below w.heap.size w W)=>sLn_all (.node 40 s m kk) (.inr (.inr (.inr ⟨(yOQ h).2.2,rfl⟩))) (fun e _=>sEx_ok e) ⟨#[]⟩ a c W (.inr (.inr (.inr ⟨(yOQ h).2.2,rfl⟩))) (yOQ h).1 (by have:=(yOQ h).2.1;show 0+_≤1000;omega) (hk.below hW))
  have HZ:=xaQ (fun (h:fitsS (.node 40 s m kk)=true)=>show (zIQ (.node 40 s m kk)).size≤1500000000 from by
   have h1:=zQQ (.node 40 s m kk) (.inr (.inr (.inr ⟨(yOQ h).2.2,rfl⟩))) ⟨#[]⟩ (by have:=(yOQ h).2.1;show 0+_≤1000;omega)
   have:=(yOQ h).1
   unfold zIQ
   omega)
  change Hid (∀ (h:fitsS (.node 40 s m kk)=true) W (hW:Below w.heap.size w W),Calls Tryz.prog 63 #[.agg #[.int .i64 40,.string s,.int .i64 m,.slice a kk.length c],.string ⟨#[]⟩] W fun e w'=>e=.returned (.string (zIQ (.node 40 s m kk)))∧Below W.heap.size W w') at HL
  generalize zIQ (.node 40 s m kk)=t at HP HC HL HZ
  generalize fitsS (.node 40 s m kk)=f at HF HP HC HL HZ
  generalize okP (.node 40 s m kk)=R at HP ⊢
  clear hs hn hc hk
  obtain ⟨p0,p1,p2,p3⟩:=F0.out
  go_enter Tryz.func38,Tryz.ntmps38
  go_wp2_with fail
  refine (HF.out _ B0.out).mono ?_
  rintro e w1 ⟨rfl,hb1⟩
  have B1:=xaQ (xbQ B0.out hb1)
  have F1:=xaQ (F0.out.below hb1)
  clear hb1 B0 F0 p0 p1 p2 p3
  cases f with
  | false =>
    have HR:=xaQ (show R=false by rw [HP.out];rfl)
    go_wp2
    go_ret
    exact ⟨xyQ HR.out.symm,B1.out⟩
  | true =>
    obtain ⟨p0,p1,p2,p3⟩:=F1.out
    have hz:=HZ.out rfl
    have HR:=xaQ (show R=(decide (t≠⟨#[]⟩) && decide ((xkQ t).2.1=0)) by rw [HP.out];simp)
    have HQ:=xaQ (HC.out rfl)
    have H1:=xaQ (HL.out rfl)
    clear HP HC HL HZ
    go_wp2_with fail
    refine (H1.out _ B1.out).mono ?_
    rintro e w2 ⟨rfl,hb2⟩
    have B2:=xaQ (xbQ B1.out hb2)
    clear hb2 B1 F1 p0 p1 p2 p3 H1
    by_cases he:t=⟨#[]⟩
    ·subst he
     have HR2:=xaQ (show R=false by rw [HR.out];rfl)
     go_wp2
     go_ret
     exact ⟨xyQ HR2.out.symm,B2.out⟩
    ·have he2:(t.toList == [])=false:=by rw [str_is];exact decide_eq_false he
     have HE:=xaQ he
     clear he
     by_cases hl:4000<t.size
     ·have hl2:decide ((4000:Int)<(t.size:Int))=true:=by simp;omega
      have HR2:=xaQ (show R=false by rw [HR.out,decide_eq_false (words_long hl)];simp)
      go_wp2
      go_ret
      exact ⟨xyQ HR2.out.symm,B2.out⟩
     ·have hl2:decide ((4000:Int)<(t.size:Int))=false:=by simp;omega
      have HS:=xaQ (fun W=>sParse_any t W (by unfold maxLen;omega))
      have HR2:=xaQ (show R=decide ((yTQ t).2.1=0) by rw [HR.out,HQ.out,decide_eq_true (show t≠⟨#[]⟩ from HE.out)];simp)
      clear hl HR HQ
      go_wp2_with fail
      refine (HS.out _).mono ?_
      rintro e w3 ⟨x,rfl,_,_,_,hb3⟩
      have B3:=xaQ (xbQ B2.out hb3)
      have B4:=xaQ ((B3.out.alloc B3.out.size (.cells x.cells.toArray 31)).alloc (Nat.le_trans B3.out.size (by simp)) (.cells #[.int .i64 (yTQ t).2.1,.int .i64 (yTQ t).2.2] 85))
      obtain ⟨xk,xs,xm,xa,xc,xkk⟩:=x
      generalize (yTQ t).2.1=cd at HR2 B4 ⊢
      generalize (yTQ t).2.2=ct at B4 ⊢
      simp only [A.val]
      simp only [A.cells] at B4
      clear hb3 B3 HS
      go_wp2
      go_ret
      exact ⟨xyQ (by rw [HR2.out];rfl),B4.out⟩
 ·have HP:=xaQ (show okP (.node k s m kk)=false from by unfold okP;rw [show xdQ (.node k s m kk)=k from rfl];simp [hk0])
  generalize okP (.node k s m kk)=R at HP ⊢
  have hk1:(k != 40)=true:=by simpa using hk0
  clear hs hn hc hk hk0
  obtain ⟨p0,p1,p2,p3⟩:=F0.out
  go_enter Tryz.func38,Tryz.ntmps38
  go_wp2
  go_ret
  exact ⟨xyQ HP.out.symm,B0.out⟩
def trbB (D:List T) (B P:T):Int × ByteArray :=
 if manyD D=true then (3,⟨#[]⟩) else match zdQ [] D with
 | some s=>(6,s)
 | none=>match wrg (badP (ycQ D) 7) B with
   | some s=>(7,s)
   | none=>match wrg (badP (ycQ D) 8) B with
     | some s=>(8,s)
     | none=>if okP P then (0,⟨#[]⟩) else (5,⟨#[]⟩)
def lastT (kk:List T):T:=kk.getLastD (.node 0 ⟨#[]⟩ 0 [])
def trb (t:T):Int × ByteArray:=if okP t then trbB (xXQ t).dropLast (lastT (xXQ t)) (plnT t) else (4,⟨#[]⟩)
end Go.Proofs.YtocbgbkdlfkjjaaGreatDoor
