/- CONTRACTS of the specification's l03Wants, l03Find. -/
import Derived.Test.YtocbgbkdlfkjjaaGreatDoorMCa
import Derived.Deep.CutRange
import Derived.Test.YtocbgbkdlfkjjaaGreatDoorMHo
set_option maxRecDepth 100000
set_option maxHeartbeats 6400000
namespace Go.Proofs.YtocbgbkdlfkjjaaGreatDoor
open Go.RowKit
open Pl
theorem sWants_any (k:Int) (w:World):Calls Tryz.prog 65 #[.int .i64 k] w fun e w'=>e=.returned (.int .i64 (wantS k))∧w=w':=by
 by_cases h2:k=2
 ·subst h2
  go_enter Tryz.func65,Tryz.ntmps65
  go_wp2
  go_ret
  exact ⟨rfl,rfl⟩
 by_cases h21:k=21
 ·subst h21
  go_enter Tryz.func65,Tryz.ntmps65
  go_wp2
  go_ret
  exact ⟨rfl,rfl⟩
 by_cases h23:k=23
 ·subst h23
  go_enter Tryz.func65,Tryz.ntmps65
  go_wp2
  go_ret
  exact ⟨rfl,rfl⟩
 by_cases h26:k=26
 ·subst h26
  go_enter Tryz.func65,Tryz.ntmps65
  go_wp2
  go_ret
  exact ⟨rfl,rfl⟩
 by_cases h3:k=3
 ·subst h3
  go_enter Tryz.func65,Tryz.ntmps65
  go_wp2
  go_ret
  exact ⟨rfl,rfl⟩
 by_cases h4:k=4
 ·subst h4
  go_enter Tryz.func65,Tryz.ntmps65
  go_wp2
  go_ret
  exact ⟨rfl,rfl⟩
 by_cases h22:k=22
 ·subst h22
  go_enter Tryz.func65,Tryz.ntmps65
  go_wp2
  go_ret
  exact ⟨rfl,rfl⟩
 have e2:(k == 2)=false:=by simpa using h2
 have e21:(k == 21)=false:=by simpa using h21
 have e23:(k == 23)=false:=by simpa using h23
 have e26:(k == 26)=false:=by simpa using h26
 have e3:(k == 3)=false:=by simpa using h3
 have e4:(k == 4)=false:=by simpa using h4
 have e22:(k == 22)=false:=by simpa using h22
 rw [show wantS k=0 by simp [wantS,h2,h21,h23,h26,h3,h4,h22]]
 go_enter Tryz.func65,Tryz.ntmps65
 go_wp2
 go_ret
 exact ⟨rfl,rfl⟩
def StrsAt (w:World) (a:Option Addr) (L:List ByteArray):Prop:=L=[]∨∃ b o,a=some ⟨b,o,none⟩∧∀ i s,L[i]?=some s→w.cell? ⟨b,o+i,none⟩=some (.string s)
theorem StrsAt.below {w w':World} {a:Option Addr} {L:List ByteArray} (h:StrsAt w a L) (hb:Below w.heap.size w w'):StrsAt w' a L:=by
 rcases h with h | ⟨b,o,e,h⟩
 ·exact .inl h
 ·exact .inr ⟨b,o,e,fun i s hi=>(hb.cell (p:=⟨b,o+i,none⟩) (World.block_lt_of_cell? w _ (h i s hi))).trans (h i s hi)⟩
theorem inN_take {L:List ByteArray} {i:Nat} {x s:ByteArray} (hx:L[i]?=some x) (h:inN (L.take i) s=false) (hn:¬ x=s):inN (L.take (i+1)) s=false:=by
 unfold inN at h ⊢
 rw [x4Q hx,List.any_append,h]
 simp [hn]
theorem sFind_any (L:List ByteArray) (s:ByteArray) (a:Option Addr) (c:Nat) (w:World) (hn:L.length≤1000) (hL:StrsAt w a L):Calls Tryz.prog 66 #[.slice a L.length c,.string s] w fun e w'=>∃ z:Int,e=.returned (.int .i64 z)∧decide (0≤z)=inN L s∧w=w':=by
 have HL:=xaQ hL
 clear hL
 go_enter Tryz.func66,Tryz.ntmps66
 go_wp2
 go_loopg [5] L.length (fun g s5 wr=>∃ i:Nat,i+g=L.length∧s5=.int .i64 i∧inN (L.take i) s=false∧wr=w)
 case atStart=>exact ⟨0,by omega,rfl,rfl,rfl⟩
 case round =>
  obtain ⟨i,hig,rfl,hno,rfl⟩:=hrel
  have HN:=xaQ hno
  clear hno
  by_cases hil:i<L.length
  ·obtain ⟨x,hx⟩:∃ x,L[i]?=some x:=⟨_,List.getElem?_eq_getElem hil⟩
   rcases HL.out with rfl | ⟨b,o,rfl,hc⟩
   ·simp at hx
   have c0:=hc i x hx
   have i0:(0:Int)≤(i:Int):=by omega
   have i1:(i:Int)<(L.length:Int):=by omega
   obtain ⟨g1,rfl⟩:∃ q,gk=q+1:=⟨gk - 1,by omega⟩
   have w3:IntKind.i64.wrap ((i:Int)+1)=(i:Int)+1:=IntWalk.i64_in _ (by omega)
   have HX:=xaQ hx
   clear hc hx
   by_cases he:x=s
   ·subst he
    go_wp2
    go_ret
    refine ⟨(i:Int),rfl,?_,rfl⟩
    rw [decide_eq_true (by omega),inN_iff.2 (List.mem_of_getElem? HX.out)]
   ·have hne:(x.toList == s.toList)=false:=by rw [str_eq,decide_eq_false he]
    have HE:=xaQ he
    clear he
    go_wp2
    go_roundg g1
    case rel=>exact ⟨i+1,by omega,by simp,inN_take HX.out HN.out HE.out,rfl⟩
    case measure=>omega
  ·have hik:i=L.length:=by omega
   subst hik
   have i1:¬ (L.length:Int)<(L.length:Int):=by omega
   have hno:=HN.out
   rw [List.take_length] at hno
   go_wp2
   go_ret
   exact ⟨-1,rfl,by simp,rfl⟩
def wrT (o:Option ByteArray):Value:=.tuple #[.string (o.getD ⟨#[]⟩),.bool o.isSome]
theorem wrgL_app (p:Int→ByteArray→Bool) (l r:List T):wrgL p (l++r)=(wrgL p l).or (wrgL p r):=by
 induction l with
 | nil=>simp [wrgL]
 | cons x l ih=>simp only [List.cons_append,wrgL,ih,Option.or_assoc]
theorem wrgL_hit2 {p:Int→ByteArray→Bool} {kk:List T} {i:Nat} {t:T} {s:ByteArray} (hx:kk[i]?=some t) (h0:wrgL p (kk.take i)=none) (h1:wrg p t=some s):wrgL p kk=some s:=by
 rw [← List.take_append_drop i kk,wrgL_app,h0,drop_cons hx]
 simp [wrgL,h1]
theorem wrgL_take2 {p:Int→ByteArray→Bool} {kk:List T} {i:Nat} {t:T} (hx:kk[i]?=some t) (h0:wrgL p (kk.take i)=none) (h1:wrg p t=none):wrgL p (kk.take (i+1))=none:=by
 rw [x4Q hx,wrgL_app,h0]
 simp [wrgL,h1]
def WrongOk (V R:List ByteArray) (cd:Int) (t:T):Prop:=match t with
 | .node k s m kk=>∀ (va ra a:Option Addr) (vc rc cc:Nat) (w:World),kk.length≤1000→Kids w 0 a kk→StrsAt w va V→StrsAt w ra R→cnts kk≤1000 →
  Calls Tryz.prog 40 #[.agg #[.int .i64 k,.string s,.int .i64 m,.slice a kk.length cc],.slice va V.length vc,.slice ra R.length rc,.int .i64 cd] w fun e w'=>e=.returned (wrT (wrg (badS V R cd) (.node k s m kk)))∧Below w.heap.size w w'
theorem sWrong_any (V R : List ByteArray) (cd:Int) (hcd:cd=7∨cd=8) (hV:V.length≤1000) (hR:R.length≤1000) (t:T):WrongOk V R cd t:=by
 refine T.induct (P:=WrongOk V R cd) ?_ t
 intro k s m kk IH va ra a vc rc cc w hn hk hva hra hct
 have B0:Below w.heap.size w (w.alloc (.cells #[.int .i64 k,.string s,.int .i64 m,.slice a kk.length cc] 31)):=(Below.refl _ _).alloc (Nat.le_refl _) _
 have HB:=xaQ B0
 have HI:=xaQ IH
 obtain ⟨p0,p1,p2,p3⟩:=Four.new w k s m a kk.length cc 31
 obtain ⟨P,hP⟩:∃ q,w.heap.size=q:=⟨_,rfl⟩
 obtain ⟨w1,hw1⟩:∃ q,w.alloc (.cells #[.int .i64 k,.string s,.int .i64 m,.slice a kk.length cc] 31)=q:=⟨_,rfl⟩
 have HK:=xaQ (hk.below B0)
 have HVA:=xaQ (hva.below B0)
 have HRA:=xaQ (hra.below B0)
 rw [hw1] at HB HK HVA HRA p0 p1 p2 p3
 rw [hP] at p0 p1 p2 p3
 have HF:=xaQ (show Four w1 P k s m a kk.length cc from ⟨p0,p1,p2,p3⟩)
 have HFV:=xaQ (sFind_any V s va vc w1 hV HVA.out)
 have HFR:=xaQ (sFind_any R s ra rc w1 hR HRA.out)
 obtain ⟨r,hr⟩:∃ r,wrg (badS V R cd) (.node k s m kk)=r:=⟨_,rfl⟩
 have HE:=xaQ (show (if badS V R cd k s=true then some s else wrgL (badS V R cd) kk)=r by rw [← hr];simp only [wrg])
 rw [hr]
 have HWT:=xaQ (sWants_any k w1)
 obtain ⟨wk,hwk⟩:∃ q,wantS k=q:=⟨_,rfl⟩
 have hw3 : wk = 0 ∨ wk = 1 ∨ wk = 2 := by rw [← hwk];unfold wantS;split;· simp
                                           ·split <;> simp
 rw [hwk] at HWT
 have HWK:=xaQ hwk
 clear B0 hr hk IH hva hra hwk
 go_enter Tryz.func40,Tryz.ntmps40
 go_upto_if 20 with (go_at_call 65;refine HWT.out.mono ?_;rintro e w2 ⟨rfl,rfl⟩)
 have hbad:badS V R cd k s=(decide (0<wk) && ((decide (cd=7) && !inN V s && !inN R s) || (decide (cd=8) && ((decide (wk=1) && !inN V s) || (decide (wk=2) && !inN R s))))):=by unfold badS;rw [HWK.out]
 obtain ⟨bv,hbv⟩:∃ q,inN V s=q:=⟨_,rfl⟩
 obtain ⟨br,hbr⟩:∃ q,inN R s=q:=⟨_,rfl⟩
 rw [hbv] at HFV hbad
 rw [hbr] at HFR hbad
 have HBD:=xaQ hbad
 clear hbad hbv hbr
 go_cut [] from 11 to 62 (fun v=>v=w1∧badS V R cd k s=false)
 case first =>
  by_cases h0:wk=0
  ·subst h0
   go_wp2_with fail
   go_meet
   exact ⟨rfl,by rw [HBD.out];rfl⟩
  have hw1':0<wk:=by omega
  go_upto_region 4 with (go_at_call 66;refine HFV.out.mono ?_;rintro e w3 ⟨z,rfl,hz,rfl⟩)
  clear hz
  go_upto_region 5 with (go_at_call 66;refine HFR.out.mono ?_;rintro e w3 ⟨z,rfl,hz,rfl⟩)
  have HBE:=xaQ (show badS V R cd k s=((decide (cd=7) && !bv && !br) || (decide (cd=8) && ((decide (wk=1) && !bv) || (decide (wk=2) && !br)))) by rw [HBD.out,decide_eq_true hw1'];simp)
  have HR:=xaQ (fun h:badS V R cd k s=true=>(show some s=r by rw [← HE.out,h];rfl))
  clear HFV HFR HWT HBD HE HK HVA HRA HI HWK
  clear hz
  have HW3:=xaQ hw3
  have H1:=xaQ hw1'
  clear hw3 hw1'
  rcases hcd with rfl | rfl
  ·cases bv <;> cases br
   all_goals
    go_wp2
    first
    | (go_meet;exact ⟨rfl,by rw [HBE.out];simp⟩)
    | (obtain rfl:some s=r:=HR.out (by rw [HBE.out];simp)
       exact bodyPost_ret (v:=.tuple #[.string s,.bool true]) (by simp [results,Tryz.results40,go_sem]) rfl ⟨rfl,hP ▸ HB.out⟩)
  ·rcases HW3.out with rfl | rfl | rfl
   ·exact absurd H1.out (by decide)
   ·cases bv
    all_goals
     go_wp2
     first
     | (go_meet;exact ⟨rfl,by rw [HBE.out];simp⟩)
     | (obtain rfl:some s=r:=HR.out (by rw [HBE.out];simp)
        exact bodyPost_ret (v:=.tuple #[.string s,.bool true]) (by simp [results,Tryz.results40,go_sem]) rfl ⟨rfl,hP ▸ HB.out⟩)
   ·cases br
    all_goals
     go_wp2
     first
     | (go_meet;exact ⟨rfl,by rw [HBE.out];simp⟩)
     | (obtain rfl:some s=r:=HR.out (by rw [HBE.out];simp)
        exact bodyPost_ret (v:=.tuple #[.string s,.bool true]) (by simp [results,Tryz.results40,go_sem]) rfl ⟨rfl,hP ▸ HB.out⟩)
 case rest =>
  obtain ⟨rfl,hbf⟩:=hcut
  have HE2:=xaQ (show wrgL (badS V R cd) kk=r by rw [← HE.out,hbf];rfl)
  clear HE HFV HFR HWT HBD
  go_wp2
  go_loopg [13] kk.length (fun g s13 wr=>∃ i:Nat,i+g=kk.length∧s13=.int .i64 i∧wrgL (badS V R cd) (kk.take i)=none∧Below wc.heap.size wc wr)
  case atStart=>exact ⟨0,by omega,rfl,rfl,Below.refl _ _⟩
  case round =>
   obtain ⟨i,hig,rfl,hno,hbel⟩:=hrel
   have HN:=xaQ hno
   have HBL:=xaQ hbel
   obtain ⟨p0,p1,p2,p3⟩:=HF.out.below hbel
   clear hno
   by_cases hlt:i<kk.length
   ·obtain ⟨x,hx⟩:∃ x,kk[i]?=some x:=⟨_,List.getElem?_eq_getElem hlt⟩
    have HX:=xaQ hx
    have hmem:=List.mem_of_getElem? hx
    have hix:=HI.out x hmem
    have hcx:cnt x≤1000:=by
     have h1:=zUQ (kk.take i) (kk.drop i)
     rw [List.take_append_drop,drop_cons hx] at h1
     simp only [cnts] at h1
     omega
    obtain ⟨xk,xs,xm,xkk⟩:=x
    have hxl:=ywQ xkk
    simp only [cnt] at hcx
    obtain ⟨b,o,xa,xc,rfl,c0,c1,c2,c3,_,_,hxk⟩:=yqQ HK.out hbel hx
    have i0:(0:Int)≤(i:Int):=by omega
    have i1:(i:Int)<(kk.length:Int):=by omega
    obtain ⟨g1,rfl⟩:∃ q,gk=q+1:=⟨gk - 1,by omega⟩
    have w3:IntKind.i64.wrap ((i:Int)+1)=(i:Int)+1:=IntWalk.i64_in _ (by omega)
    have hcl:=hix va ra xa vc rc xc wr (by omega) hxk (HVA.out.below hbel) (HRA.out.below hbel) (by omega)
    clear hx hbel hix hxk
    cases ho:wrg (badS V R cd) (.node xk xs xm xkk) with
    | none =>
     rw [ho] at hcl
     have HC:=xaQ hcl
     have HN2:=xaQ (wrgL_take2 HX.out HN.out ho)
     clear hcl ho
     go_wp2_with (go_at_call 40;refine HC.out.mono ?_;rintro e w5 ⟨rfl,hb5⟩;simp only [wrT,Option.getD_none,Option.isSome_none])
     go_roundg g1
     case rel=>exact ⟨i+1,by omega,by simp,HN2.out,xbQ HBL.out hb5⟩
     case measure=>omega
    | some s2 =>
     rw [ho] at hcl
     have HC:=xaQ hcl
     obtain rfl:some s2=r:=by rw [← HE2.out,wrgL_hit2 HX.out HN.out ho]
     clear hcl ho
     go_wp2_with (go_at_call 40;refine HC.out.mono ?_;rintro e w5 ⟨rfl,hb5⟩;simp only [wrT,Option.getD_some,Option.isSome_some])
     exact bodyPost_ret (v:=.tuple #[.string s2,.bool true]) (by simp [results,Tryz.results40,go_sem]) rfl ⟨rfl,hP ▸ xbQ (xbQ HB.out HBL.out) hb5⟩
   ·have hil:i=kk.length:=by omega
    subst hil
    have i1:¬ (kk.length:Int)<(kk.length:Int):=by omega
    obtain rfl:none=r:=by rw [← HE2.out];have:=HN.out;rw [List.take_length] at this;exact this.symm
    go_wp2
    exact bodyPost_ret (v:=.tuple #[.string ⟨#[]⟩,.bool false]) (by simp [results,Tryz.results40,go_sem]) rfl ⟨rfl,hP ▸ xbQ HB.out HBL.out⟩
end Go.Proofs.YtocbgbkdlfkjjaaGreatDoor
