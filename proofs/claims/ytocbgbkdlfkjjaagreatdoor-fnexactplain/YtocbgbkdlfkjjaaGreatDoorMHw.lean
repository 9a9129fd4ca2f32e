/- CONTRACT of the specification's reader's one. -/
import Derived.Test.YtocbgbkdlfkjjaaGreatDoorMHv
import Derived.Test.YtocbgbkdlfkjjaaGreatDoorMHo
set_option maxRecDepth 100000
set_option maxHeartbeats 4000000
namespace Go.Proofs.YtocbgbkdlfkjjaaGreatDoor
open Go.RowKit
open Pl
theorem x2Q (rb:Nat) (a:Option Addr) (cap:Nat) (ws:List W3) (st:St2) (s:ByteArray) (hs:s≠⟨#[]⟩) (w:World) (h:Sd w rb a cap ws st) (ht:tk ws st s=true) :
    Calls Tryz.prog 122 #[.pointer (some ⟨rb,0,none⟩),.string s] w fun e w'=>e=.returned (.bool true)∧Sd w' rb a cap ws (st.1+1,false)∧Step rb w w':=by
 refine (sTake_any rb a cap ws st s hs w h).mono ?_
 rintro e w' ⟨rfl,r,s⟩
 unfold tkS at r
 rw [if_pos ht] at r
 exact ⟨by rw [ht],r,s⟩
theorem xjQ (rb:Nat) (a:Option Addr) (cap:Nat) (ws:List W3) (st:St2) (s:ByteArray) (hs:s≠⟨#[]⟩) (w:World) (h:Sd w rb a cap ws st) (ht:tk ws st s=false) :
    Calls Tryz.prog 122 #[.pointer (some ⟨rb,0,none⟩),.string s] w fun e w'=>e=.returned (.bool false)∧Sd w' rb a cap ws st∧Step rb w w':=by
 refine (sTake_any rb a cap ws st s hs w h).mono ?_
 rintro e w' ⟨rfl,r,s⟩
 unfold tkS at r
 rw [if_neg (by rw [ht];decide)] at r
 exact ⟨by rw [ht],r,s⟩
theorem sKind_st (rb:Nat) (a:Option Addr) (cap:Nat) (ws:List W3) (st:St2) (w:World) (h:Sd w rb a cap ws st) :
    Calls Tryz.prog 125 #[.pointer (some ⟨rb,0,none⟩)] w fun e w'=>e=.returned (.int .i64 (xTQ ws st.1))∧Sd w' rb a cap ws st∧Step rb w w':=by
 refine (sKindW_any rb a cap ws st w h).mono ?_
 rintro e w' ⟨rfl,n,rfl⟩
 exact ⟨rfl,h.drewN n,(Step.refl rb w).drewN n⟩
theorem xoQ (ws:List W3) (i:Nat) (s:ByteArray):tk ws (i,false) s=isW ws i s:=by simp [tk]
def SOne (rb:Nat) (a:Option Addr) (cap:Nat) (ws:List W3) (f:Nat):Prop:=∀ (st:St2) (w:World),5 * (ws.length - st.1)+1≤f→Sd w rb a cap ws st→Calls Tryz.prog 176 #[.pointer (some ⟨rb,0,none⟩)] w (zcQ rb a cap ws w (mOne ws f st.1) st)
def STerm (rb:Nat) (a:Option Addr) (cap:Nat) (ws:List W3) (f:Nat):Prop:=∀ (st:St2) (w:World),5 * (ws.length - st.1)+2≤f→Sd w rb a cap ws st→Calls Tryz.prog 170 #[.pointer (some ⟨rb,0,none⟩)] w (zcQ rb a cap ws w (zgQ ws f st.1) st)
def SExpr (rb:Nat) (a:Option Addr) (cap:Nat) (ws:List W3) (f:Nat):Prop:=∀ (st:St2) (w:World),5 * (ws.length - st.1)+3≤f→Sd w rb a cap ws st→Calls Tryz.prog 160 #[.pointer (some ⟨rb,0,none⟩)] w (zcQ rb a cap ws w (x0Q ws f st.1) st)
theorem name_len {ws:List W3} (he:Env ws) (st:St2):(nmT ws st).size≤maxLen:=by
 unfold nmT
 split
 ·exact he.text _
 ·exact Nat.zero_le _
theorem sone_bad {rb:Nat} {a:Option Addr} {cap:Nat} {ws:List W3} {f:Nat} (i:Nat) (w:World) (h:Sd w rb a cap ws (i,true))  :
    Calls Tryz.prog 176 #[.pointer (some ⟨rb,0,none⟩)] w (zcQ rb a cap ws w (mOne ws (f+1) i) (i,true)):=by
 obtain ⟨_,_,cb,_,_⟩:=h.cells
 simp only at cb
 have HA:=xaQ h
 have hrb:=h.lt
 clear h
 go_enter Tryz.func176,Tryz.ntmps176
 go_wp2
 obtain ⟨q0,q1,q2,q3⟩:=xhQ (heap_alloc_new w (.cells #[.int .i64 0,.string ⟨#[]⟩,.int .i64 0,.slice none 0 0] 31)) (.int .i64 0) (.string ⟨#[]⟩) (.int .i64 0) (.slice none 0 0)
 first | exact bodyPost_ret (v:=(A.node 0 ⟨#[]⟩ 0 none 0 []).val) (by simp [results,Tryz.results176,go_sem,A.val]) rfl (sp_leaf 0 0 ⟨#[]⟩ (HA.out.alloc _) hrb ((Step.refl rb w).alloc _) (by decide) (SR.mk_bad _ _ _)) | exact bodyPost_ret (v:=(A.node 0 ⟨#[]⟩ 0 none 0 []).val) (by simp [results,Tryz.results176,go_sem,A.val]) rfl ⟨_,_,rfl,Sits.leaf _ _ _ (by decide),New.leaf _ _ _ _ _ _,HA.out.alloc _,(Step.refl rb w).alloc _,SR.mk_bad _ _ _⟩
theorem sone_neg {rb:Nat} {a:Option Addr} {cap:Nat} {ws:List W3} {f:Nat} (hO:SOne rb a cap ws f) (i:Nat) (w:World) (hf:5 * (ws.length - i)+1≤f+1) (h:Sd w rb a cap ws (i,false)) (h1:isW ws i ⟨#[45]⟩=true) :
    Calls Tryz.prog 176 #[.pointer (some ⟨rb,0,none⟩)] w (zcQ rb a cap ws w (mOne ws (f+1) i) (i,false)):=by
 obtain ⟨_,_,cb,_,_⟩:=h.cells
 simp only at cb
 have hlt:=yCQ h1
 have HO:=xaQ (fun w h=>hO (i+1,false) w (by simp only;omega) h)
 have H1:=xaQ h1
 have HA:=xaQ h
 have hrb:=h.lt
 have C0:=xaQ (fun w h=>x2Q rb a cap ws (i,false) ⟨#[45]⟩ (by decide) w h (by rw [xoQ];exact h1))
 clear h hO h1
 go_enter Tryz.func176,Tryz.ntmps176
 go_wp2_with fail
 refine (C0.out _ (HA.out.alloc _)).mono ?_
 rintro e w1 ⟨rfl,r,s⟩
 have R1:=xaQ r
 have S1:=xaQ (((Step.refl rb w).alloc _).trans s)
 have P1:=xaQ (s.at (heap_alloc_new w _) (by omega))
 clear r s
 go_wp2_with fail
 refine (HO.out _ R1.out).mono ?_
 rintro e w2 ⟨x,st',rfl,hsx,hnx,r,s,hr⟩
 have R2:=xaQ r
 have S2:=xaQ (S1.out.trans s)
 have P2:=xaQ (s.at P1.out (by omega))
 have HS:=xaQ hsx
 have HN:=xaQ hnx
 have HR:=xaQ hr
 have Z:=xaQ s.size
 clear r s hsx hnx hr
 obtain ⟨xk,xs,xm,xa,xc,xkk⟩:=x
 simp only [A.val]
 have z1:w.heap.size<w1.heap.size:=(Array.getElem?_eq_some_iff.1 P1.out).1
 go_wp2_with fail
 refine (one_new 5 (.node xk xs xm xa xc xkk) _).mono ?_
 rintro e w3 ⟨bb,rfl,hB,hge,hb⟩
 obtain ⟨t1,t2⟩:=made (k:=5) (m:=0) (s:=⟨#[]⟩) (c:=1) (x1Q HS.out) hb hB hge (NewL.one HN.out) Z.out (by decide) (by simp [maxLen])
 have P3:=xaQ ((hb.block _ (Array.getElem?_eq_some_iff.1 P2.out).1).trans P2.out)
 have R3:=xaQ (R2.out.keep (hb.mono R2.out.lt))
 have S3:=xaQ (S2.out.trans (Step.of_below hb))
 have HT1:=xaQ t1
 have HT2:=xaQ t2
 clear hB hge hb t1 t2
 simp only [A.val]
 obtain ⟨c0,c1,c2,c3,f0,f1,f2,f3⟩:=xcQ P3.out
 go_wp2
 obtain ⟨q0,q1,q2,q3⟩:=xhQ P3.out (.int .i64 5) (.string ⟨#[]⟩) (.int .i64 0) (.slice (some ⟨bb,0,none⟩) 1 1)
 exact bodyPost_ret (v:=(A.node 5 ⟨#[]⟩ 0 (some ⟨bb,0,none⟩) 1 [.node xk xs xm xa xc xkk]).val) (by simp [results,Tryz.results176,go_sem,q0,q1,q2,q3,A.val]) rfl (yGQ _ _ _ _ _ R3.out hrb S3.out HT1.out HT2.out z1 (by rw [erase1];exact sr_neg H1.out HR.out))
theorem sone_par {rb:Nat} {a:Option Addr} {cap:Nat} {ws:List W3} {f:Nat} (hE:SExpr rb a cap ws f) (i:Nat) (w:World) (hf:5 * (ws.length - i)+1≤f+1) (h:Sd w rb a cap ws (i,false)) (n0:isW ws i ⟨#[45]⟩=false) (n2:(xTQ ws i == 2)=false) (h1:isW ws i ⟨#[40]⟩=true) :
    Calls Tryz.prog 176 #[.pointer (some ⟨rb,0,none⟩)] w (zcQ rb a cap ws w (mOne ws (f+1) i) (i,false)):=by
 obtain ⟨_,_,cb,_,_⟩:=h.cells
 simp only at cb
 have hlt:=yCQ h1
 have HE:=xaQ (fun w h=>hE (i+1,false) w (by simp only;omega) h)
 have H1:=xaQ h1
 have HA:=xaQ h
 have hrb:=h.lt
 have C0:=xaQ (fun w h=>xjQ rb a cap ws (i,false) ⟨#[45]⟩ (by decide) w h (by rw [xoQ];exact n0))
 have C1:=xaQ (fun w h=>sKind_st rb a cap ws (i,false) w h)
 have C2:=xaQ (fun w h=>x2Q rb a cap ws (i,false) ⟨#[40]⟩ (by decide) w h (by rw [xoQ];exact h1))
 have C3:=xaQ (fun st' w h=>xQQ rb a cap ws st' ⟨#[41]⟩ (by decide) w h)
 clear h hE h1 n0
 go_enter Tryz.func176,Tryz.ntmps176
 go_wp2_with fail
 refine (C0.out _ (HA.out.alloc _)).mono ?_
 rintro e w1 ⟨rfl,r,s⟩
 have R1:=xaQ r
 have S1:=xaQ (((Step.refl rb w).alloc _).trans s)
 have P1:=xaQ (s.at (heap_alloc_new w _) (by omega))
 clear r s
 go_wp2_with fail
 refine (C1.out _ R1.out).mono ?_
 rintro e w2 ⟨rfl,r,s⟩
 have R2:=xaQ r
 have S2:=xaQ (S1.out.trans s)
 have P2:=xaQ (s.at P1.out (by omega))
 clear r s
 go_wp2_with fail
 refine (C2.out _ R2.out).mono ?_
 rintro e w3 ⟨rfl,r,s⟩
 have R3:=xaQ r
 have S3:=xaQ (S2.out.trans s)
 have P3:=xaQ (s.at P2.out (by omega))
 clear r s
 go_wp2_with fail
 refine (HE.out _ R3.out).mono ?_
 rintro e w4 ⟨x,st',rfl,hsx,hnx,r,s,hr⟩
 have R4:=xaQ r
 have S4:=xaQ (S3.out.trans s)
 have P4:=xaQ (s.at P3.out (by omega))
 clear r s
 have z3:w.heap.size<w3.heap.size:=(Array.getElem?_eq_some_iff.1 P3.out).1
 have z4:w.heap.size<w4.heap.size:=(Array.getElem?_eq_some_iff.1 P4.out).1
 have hsx':=((Step.refl rb w4).alloc (.cells x.cells.toArray 31)).sits hsx (fun q hq=>by have:=hnx.2 q hq;have:=R3.out.lt;omega)
 obtain ⟨xk,xs,xm,xa,xc,xkk⟩:=x
 simp only [A.cells] at hsx'
 have HS:=xaQ hsx'
 have HN:=xaQ hnx
 have HR:=xaQ hr
 clear hsx' hsx hnx hr
 simp only [A.val]
 go_wp2_with fail
 refine (C3.out st' _ (R4.out.alloc _)).mono ?_
 rintro e w5 ⟨rfl,r,s⟩
 have P5:=xaQ (s.at ((Lib.alloc_old w4 _ _ z4).trans P4.out) (by omega))
 have L5:=s.at (heap_alloc_new w4 _) (by have:=R4.out.lt;omega)
 have HS5:=xaQ (s.sits HS.out (fun q hq=>by have:=HN.out.2 q hq;have:=R3.out.lt;omega))
 have S5:=xaQ ((S4.out.alloc _).trans s)
 have R5:=xaQ r
 clear r s
 obtain ⟨d0,d1,d2,d3,_⟩:=xcQ L5
 obtain ⟨c0,c1,c2,c3,f0,f1,f2,f3⟩:=xcQ P5.out
 clear L5
 go_wp2
 obtain ⟨q0,q1,q2,q3⟩:=xhQ P5.out (.int .i64 xk) (.string xs) (.int .i64 xm) (.slice xa xkk.length xc)
 exact bodyPost_ret (v:=(A.node xk xs xm xa xc xkk).val) (by simp [results,Tryz.results176,go_sem,q0,q1,q2,q3,A.val]) rfl (yGQ _ _ _ _ _ R5.out hrb S5.out HS5.out HN.out z3 (sr_par H1.out HR.out))
theorem sone_len {rb:Nat} {a:Option Addr} {cap:Nat} {ws:List W3} {f:Nat} (he:Env ws) (i:Nat) (w:World) (h:Sd w rb a cap ws (i,false)) (n0:isW ws i ⟨#[45]⟩=false) (n1:isW ws i ⟨#[40]⟩=false) (n2:(xTQ ws i == 2)=false) (h1:isW ws i ⟨#[108,101,110]⟩=true) :
    Calls Tryz.prog 176 #[.pointer (some ⟨rb,0,none⟩)] w (zcQ rb a cap ws w (mOne ws (f+1) i) (i,false)):=by
 obtain ⟨_,_,cb,_,_⟩:=h.cells
 simp only at cb
 have hnm:=name_len he (nd ws (i+1,false) ⟨#[40]⟩)
 have H1:=xaQ h1
 have HA:=xaQ h
 have hrb:=h.lt
 have C0:=xaQ (fun w h=>xjQ rb a cap ws (i,false) ⟨#[45]⟩ (by decide) w h (by rw [xoQ];exact n0))
 have C1:=xaQ (fun w h=>sKind_st rb a cap ws (i,false) w h)
 have C2:=xaQ (fun w h=>xjQ rb a cap ws (i,false) ⟨#[40]⟩ (by decide) w h (by rw [xoQ];exact n1))
 have C3:=xaQ (fun w h=>x2Q rb a cap ws (i,false) ⟨#[108,101,110]⟩ (by decide) w h (by rw [xoQ];exact h1))
 have C4:=xaQ (fun w h=>xQQ rb a cap ws (i+1,false) ⟨#[40]⟩ (by decide) w h)
 have C5:=xaQ (fun w h=>sNm_any rb a cap ws (nd ws (i+1,false) ⟨#[40]⟩) w h)
 have C6:=xaQ (fun w h=>xQQ rb a cap ws (nmS ws (nd ws (i+1,false) ⟨#[40]⟩)) ⟨#[41]⟩ (by decide) w h)
 clear h h1 n0 n1 he
 go_enter Tryz.func176,Tryz.ntmps176
 go_wp2_with fail
 refine (C0.out _ (HA.out.alloc _)).mono ?_
 rintro e w1 ⟨rfl,r,s⟩
 have R1:=xaQ r
 have S1:=xaQ (((Step.refl rb w).alloc _).trans s)
 have P1:=xaQ (s.at (heap_alloc_new w _) (by omega))
 clear r s
 go_wp2_with fail
 refine (C1.out _ R1.out).mono ?_
 rintro e w2 ⟨rfl,r,s⟩
 have R2:=xaQ r
 have S2:=xaQ (S1.out.trans s)
 have P2:=xaQ (s.at P1.out (by omega))
 clear r s
 go_wp2_with fail
 refine (C2.out _ R2.out).mono ?_
 rintro e w3 ⟨rfl,r,s⟩
 have R3:=xaQ r
 have S3:=xaQ (S2.out.trans s)
 have P3:=xaQ (s.at P2.out (by omega))
 clear r s
 go_wp2_with fail
 refine (C3.out _ R3.out).mono ?_
 rintro e w4 ⟨rfl,r,s⟩
 have R4:=xaQ r
 have S4:=xaQ (S3.out.trans s)
 have P4:=xaQ (s.at P3.out (by omega))
 clear r s
 go_wp2_with fail
 refine (C4.out _ R4.out).mono ?_
 rintro e w5 ⟨rfl,r,s⟩
 have R5:=xaQ r
 have S5:=xaQ (S4.out.trans s)
 have P5:=xaQ (s.at P4.out (by omega))
 clear r s
 go_wp2_with fail
 refine (C5.out _ R5.out).mono ?_
 rintro e w6 ⟨rfl,r,s⟩
 have R6:=xaQ r
 have S6:=xaQ (S5.out.trans s)
 have P6:=xaQ (s.at P5.out (by omega))
 clear r s
 go_wp2_with fail
 refine (C6.out _ R6.out).mono ?_
 rintro e w7 ⟨rfl,r,s⟩
 have R7:=xaQ r
 have S7:=xaQ (S6.out.trans s)
 have P7:=xaQ (s.at P6.out (by omega))
 clear r s
 obtain ⟨c0,c1,c2,c3,f0,f1,f2,f3⟩:=xcQ P7.out
 go_wp2
 obtain ⟨q0,q1,q2,q3⟩:=xhQ P7.out (.int .i64 4) (.string (nmT ws (nd ws (i+1,false) ⟨#[40]⟩))) (.int .i64 0) (.slice none 0 0)
 exact bodyPost_ret (v:=(A.node 4 (nmT ws (nd ws (i+1,false) ⟨#[40]⟩)) 0 none 0 []).val) (by simp [results,Tryz.results176,go_sem,q0,q1,q2,q3,A.val]) rfl (sp_leaf 4 0 (nmT ws (nd ws (i+1,false) ⟨#[40]⟩)) R7.out hrb S7.out hnm (sr_len H1.out))
theorem sone_var {rb:Nat} {a:Option Addr} {cap:Nat} {ws:List W3} {f:Nat} (he:Env ws) (i:Nat) (w:World) (h:Sd w rb a cap ws (i,false)) (n0:isW ws i ⟨#[45]⟩=false) (n1:isW ws i ⟨#[40]⟩=false) (n2:(xTQ ws i == 2)=false) (n3:isW ws i ⟨#[108,101,110]⟩=false) (h2:tk ws (nmS ws (i,false)) ⟨#[91]⟩=false) :
    Calls Tryz.prog 176 #[.pointer (some ⟨rb,0,none⟩)] w (zcQ rb a cap ws w (mOne ws (f+1) i) (i,false)):=by
 obtain ⟨_,_,cb,_,_⟩:=h.cells
 simp only at cb
 have hnm:=name_len he (i,false)
 have HSR:=xaQ (sr_var (f:=f) n0 n1 n3 (by simpa using n2) h2)
 have HA:=xaQ h
 have hrb:=h.lt
 have C0:=xaQ (fun w h=>xjQ rb a cap ws (i,false) ⟨#[45]⟩ (by decide) w h (by rw [xoQ];exact n0))
 have C1:=xaQ (fun w h=>sKind_st rb a cap ws (i,false) w h)
 have C2:=xaQ (fun w h=>xjQ rb a cap ws (i,false) ⟨#[40]⟩ (by decide) w h (by rw [xoQ];exact n1))
 have C3:=xaQ (fun w h=>xjQ rb a cap ws (i,false) ⟨#[108,101,110]⟩ (by decide) w h (by rw [xoQ];exact n3))
 have C4:=xaQ (fun w h=>sNm_any rb a cap ws (i,false) w h)
 have C5:=xaQ (fun w h=>xjQ rb a cap ws (nmS ws (i,false)) ⟨#[91]⟩ (by decide) w h h2)
 clear h n0 n1 n3 h2 he
 go_enter Tryz.func176,Tryz.ntmps176
 go_wp2_with fail
 refine (C0.out _ (HA.out.alloc _)).mono ?_
 rintro e w1 ⟨rfl,r,s⟩
 have R1:=xaQ r
 have S1:=xaQ (((Step.refl rb w).alloc _).trans s)
 have P1:=xaQ (s.at (heap_alloc_new w _) (by omega))
 clear r s
 go_wp2_with fail
 refine (C1.out _ R1.out).mono ?_
 rintro e w2 ⟨rfl,r,s⟩
 have R2:=xaQ r
 have S2:=xaQ (S1.out.trans s)
 have P2:=xaQ (s.at P1.out (by omega))
 clear r s
 go_wp2_with fail
 refine (C2.out _ R2.out).mono ?_
 rintro e w3 ⟨rfl,r,s⟩
 have R3:=xaQ r
 have S3:=xaQ (S2.out.trans s)
 have P3:=xaQ (s.at P2.out (by omega))
 clear r s
 go_wp2_with fail
 refine (C3.out _ R3.out).mono ?_
 rintro e w4 ⟨rfl,r,s⟩
 have R4:=xaQ r
 have S4:=xaQ (S3.out.trans s)
 have P4:=xaQ (s.at P3.out (by omega))
 clear r s
 go_wp2_with fail
 refine (C4.out _ R4.out).mono ?_
 rintro e w5 ⟨rfl,r,s⟩
 have R5:=xaQ r
 have S5:=xaQ (S4.out.trans s)
 have P5:=xaQ (s.at P4.out (by omega))
 clear r s
 go_wp2_with fail
 refine (C5.out _ R5.out).mono ?_
 rintro e w6 ⟨rfl,r,s⟩
 have R6:=xaQ r
 have S6:=xaQ (S5.out.trans s)
 have P6:=xaQ (s.at P5.out (by omega))
 clear r s
 obtain ⟨c0,c1,c2,c3,f0,f1,f2,f3⟩:=xcQ P6.out
 go_wp2
 obtain ⟨q0,q1,q2,q3⟩:=xhQ P6.out (.int .i64 2) (.string (nmT ws (i,false))) (.int .i64 0) (.slice none 0 0)
 exact bodyPost_ret (v:=(A.node 2 (nmT ws (i,false)) 0 none 0 []).val) (by simp [results,Tryz.results176,go_sem,q0,q1,q2,q3,A.val]) rfl (sp_leaf 2 0 (nmT ws (i,false)) R6.out hrb S6.out hnm HSR.out)
def TInv (ws:List W3) (f:Nat) (m:Nat→T→Nat→Res) (R:Res) (st:St2) (x:T) (st':St2):Prop :=
 (st.2=true∧st'=st)∨(st.2=false∧((st'.2=true∧R=.no st'.1)∨(st'.2=false∧∃ g,g≤f∧5 * (ws.length - st'.1)+1≤g∧m g x st'.1=R)))
theorem tinv_end {ws:List W3} {f:Nat} {m:Nat→T→Nat→Res} {R:Res} {st:St2} {x:T} {st':St2} (h:TInv ws f m R st x st') (hm:st'.2=false→∀ g,1≤g→m g x st'.1=.ok x st'.1):SR R st x st':=by
 obtain ⟨i,b⟩:=st
 obtain ⟨j,c⟩:=st'
 rcases h with ⟨h1,h2⟩ | ⟨h1,⟨h2,h3⟩ | ⟨h2,g,_,h3,h4⟩⟩
 ·simp only at h1
  subst h1
  rw [h2];exact SR.mk_bad _ _ _
 ·simp only at h1 h2 h3
  subst h1 h2
  rw [h3];exact SR.mk_no _ _ _
 ·simp only at h1 h2 h3 h4
  subst h1 h2
  rw [← h4,hm rfl g (by omega)];exact SR.mk_ok _ _ _
theorem tinv_first {ws:List W3} {f i:Nat} {b:Bool} {m:Nat→T→Nat→Res} {r R:Res} {x:T} {st':St2} (hR:R=r.then_ fun x j=>m f x j) (h:SR r (i,b) x st') (ha:∀ t j,r=.ok t j→i<j∧j≤ws.length) (hf:5 * (ws.length - i)+1≤f):TInv ws f m R (i,b) x st':=by
 cases b with
 | true=>exact .inl ⟨rfl,h.bad⟩
 | false =>
  refine .inr ⟨rfl,?_⟩
  cases r with
  | no p=>rw [h.no];exact .inl ⟨rfl,hR⟩
  | ok t j =>
   rw [h.ok.1,h.ok.2]
   have:=ha t j rfl
   exact .inr ⟨rfl,f,Nat.le_refl _,by simp only;omega,hR.symm⟩
end Go.Proofs.YtocbgbkdlfkjjaaGreatDoor
