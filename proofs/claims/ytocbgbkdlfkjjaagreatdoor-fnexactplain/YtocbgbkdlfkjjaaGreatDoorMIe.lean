/- PLAIN FACTS: the specification's reader against the plain reading, at declarations and at programs. -/
import Derived.Test.YtocbgbkdlfkjjaaGreatDoorMIc
import Derived.Test.YtocbgbkdlfkjjaaGreatDoorMId
import Derived.Deep.QuietTactic
import Derived.BigQuiet
import Derived.Deep.RegionLaw
import Derived.Deep.AppendLies
set_option maxRecDepth 100000
namespace Go.Proofs.YtocbgbkdlfkjjaaGreatDoor
open Go.RowKit
open Pl
theorem brace_no {ws:List W3} (hw:WsOk ws) {F f j:Nat} (h:isW ws j ⟨#[125]⟩=true):xFQ ws F (f+1) j=.no j:=by
 have hk:xTQ ws j≠1:=by rw [isW_kind hw h];exact not_name (by decide)
 have e1:=xSQ (t:=⟨#[105,102]⟩) h (by decide)
 have e2:=xSQ (t:=⟨#[119,104,105,108,101]⟩) h (by decide)
 have e3:=xSQ (t:=⟨#[102,111,114]⟩) h (by decide)
 have e4:=xSQ (t:=⟨#[114,101,97,100]⟩) h (by decide)
 have e5:=xSQ (t:=⟨#[99,104,101,99,107]⟩) h (by decide)
 have e6:=xSQ (t:=⟨#[115,107,105,112]⟩) h (by decide)
 have e7:=xSQ (t:=⟨#[115,116,111,112]⟩) h (by decide)
 rw [stmt_short_eq e1 e2 e3]
 unfold ybQ yQQ
 rw [e4,e5,e6,e7,if_neg hk]
 rfl
theorem seq_all {ws:List W3} (hw:WsOk ws) {F:Nat} (hF:1≤F) (ds:List T) (g:Nat):∀ (acc:List T) (i:Nat),3 * (ws.length - i)+2≤g →
    mAll ws F ds g acc i=if (seqM ws (fun _=>xFQ ws F F) g acc i).2.2=true then .no (seqM ws (fun _=>xFQ ws F F) g acc i).2.1 else
     if (seqM ws (fun _=>xFQ ws F F) g acc i).2.1<ws.length then .no (seqM ws (fun _=>xFQ ws F F) g acc i).2.1 else .ok (.node 40 nil_ 0 (ds++[.node 30 nil_ 0 (seqM ws (fun _=>xFQ ws F F) g acc i).1])) (seqM ws (fun _=>xFQ ws F F) g acc i).2.1:=by
 induction g with
 | zero=>intro acc i h;omega
 | succ g ih =>
   intro acc i h
   by_cases hl:i<ws.length
   ·by_cases hb:isW ws i ⟨#[125]⟩=true
    ·rw [seq_stop (fun q=>by rw [hb] at q;cases q.2)]
     obtain ⟨F1,rfl⟩:∃ F1,F=F1+1:=⟨F - 1,by omega⟩
     simp only [mAll]
     rw [if_pos hl,brace_no hw hb,if_neg (by decide),if_pos hl]
     rfl
    ·have hb':isW ws i ⟨#[125]⟩=false:=by simpa using hb
     rw [seq_go ⟨hl,hb'⟩]
     simp only [mAll]
     rw [if_pos hl]
     have ha:=(advS ws F F).1 i
     generalize xFQ ws F F i=r at ha ⊢
     cases r with
     | no p=>simp [Res.then_]
     | ok t j =>
       have:=ha t j rfl
       simp only [Res.then_]
       exact ih _ _ (by omega)
   ·rw [seq_stop (fun q=>hl q.1)]
    simp only [mAll]
    rw [if_neg hl,if_neg (by decide),if_neg hl]
theorem sr_dvar {ws:List W3} {i:Nat} (h1:isW ws i ⟨#[118,97,114]⟩=true):SR (mDecl ws i) (i,false) (.node 31 (nmT ws (i+1,false)) 0 []) (nd ws (nmS ws (i+1,false)) ⟨#[59]⟩):=by
 unfold mDecl yQQ want
 rw [if_pos h1]
 by_cases k:xTQ ws (i+1)=1
 ·rw [if_pos k,(zeQ k).1,(zeQ k).2,ymQ]
  by_cases k2:isW ws (i+2) ⟨#[59]⟩=true
  ·rw [if_pos k2,if_pos k2];exact SR.mk_ok _ _ _
  ·rw [if_neg k2,if_neg k2];exact SR.mk_no _ _ _
 ·rw [if_neg k,nm_none k,yaQ];exact SR.mk_no _ _ _
theorem sr_dnum {ws:List W3} (hw:WsOk ws) {i j:Nat} (h1:isW ws i ⟨#[97,114,114,97,121]⟩=true) (hb:nd ws (nmS ws (i+1,false)) ⟨#[91]⟩=(j,false)) (k2:xTQ ws j=2) :
    SR (mDecl ws i) (i,false) (.node 32 (nmT ws (i+1,false)) (numV (xPQ ws j)) []) (nd ws (nd ws (j+1,false) ⟨#[93]⟩) ⟨#[59]⟩):=by
 unfold mDecl yQQ want
 rw [if_neg (by rw [xSQ h1 (by decide)];decide),if_pos h1]
 by_cases k:xTQ ws (i+1)=1
 ·rw [(zeQ k).1,ymQ] at hb
  by_cases k1:isW ws (i+1+1) ⟨#[91]⟩=true
  ·rw [if_pos k1] at hb
   have hj:j=i+3:=by injection hb with q;omega
   subst hj
   have k1':isW ws (i+2) ⟨#[91]⟩=true:=k1
   rw [if_pos k,if_pos k1',if_neg (by rw [zsQ hw k2 (by decide)];decide),if_pos k2,(zeQ k).2,ymQ]
   by_cases k3:isW ws (i+3+1) ⟨#[93]⟩=true
   ·have k3':isW ws (i+4) ⟨#[93]⟩=true:=k3
    rw [if_pos k3,if_pos k3',ymQ]
    by_cases k4:isW ws (i+3+1+1) ⟨#[59]⟩=true
    ·have k4':isW ws (i+5) ⟨#[59]⟩=true:=k4
     rw [if_pos k4,if_pos k4'];exact SR.mk_ok _ _ _
    ·have k4':¬ isW ws (i+5) ⟨#[59]⟩=true:=k4
     rw [if_neg k4,if_neg k4'];exact SR.mk_no _ _ _
   ·have k3':¬ isW ws (i+4) ⟨#[93]⟩=true:=k3
    rw [if_neg k3,if_neg k3',yaQ];exact SR.mk_no _ _ _
  ·rw [if_neg k1] at hb;injection hb with _ q;cases q
 ·rw [nm_none k,yaQ] at hb;injection hb with _ q;cases q
theorem sr_dany {ws:List W3} {i:Nat} (h1:isW ws i ⟨#[97,114,114,97,121]⟩=true) (hk:∀ j,nd ws (nmS ws (i+1,false)) ⟨#[91]⟩=(j,false)→xTQ ws j≠2) :
    SR (mDecl ws i) (i,false) (.node 32 (nmT ws (i+1,false)) (-1) []) (nd ws (nd ws (nd ws (nd ws (nmS ws (i+1,false)) ⟨#[91]⟩) ⟨#[63]⟩) ⟨#[93]⟩) ⟨#[59]⟩):=by
 unfold mDecl yQQ want
 rw [if_neg (by rw [xSQ h1 (by decide)];decide),if_pos h1]
 by_cases k:xTQ ws (i+1)=1
 ·rw [(zeQ k).1,ymQ] at hk ⊢
  rw [if_pos k,(zeQ k).2]
  by_cases k1:isW ws (i+1+1) ⟨#[91]⟩=true
  ·have k1':isW ws (i+2) ⟨#[91]⟩=true:=k1
   rw [if_pos k1] at hk ⊢
   have hk':xTQ ws (i+3)≠2:=hk _ rfl
   rw [if_pos k1',ymQ]
   by_cases k2:isW ws (i+1+1+1) ⟨#[63]⟩=true
   ·have k2':isW ws (i+3) ⟨#[63]⟩=true:=k2
    rw [if_pos k2,if_pos k2',ymQ]
    by_cases k3:isW ws (i+1+1+1+1) ⟨#[93]⟩=true
    ·have k3':isW ws (i+4) ⟨#[93]⟩=true:=k3
     rw [if_pos k3,if_pos k3',ymQ]
     by_cases k4:isW ws (i+1+1+1+1+1) ⟨#[59]⟩=true
     ·have k4':isW ws (i+5) ⟨#[59]⟩=true:=k4
      rw [if_pos k4,if_pos k4'];exact SR.mk_ok _ _ _
     ·have k4':¬ isW ws (i+5) ⟨#[59]⟩=true:=k4
      rw [if_neg k4,if_neg k4'];exact SR.mk_no _ _ _
    ·have k3':¬ isW ws (i+4) ⟨#[93]⟩=true:=k3
     rw [if_neg k3,if_neg k3',yaQ];exact SR.mk_no _ _ _
   ·have k2':¬ isW ws (i+3) ⟨#[63]⟩=true:=k2
    rw [if_neg k2,if_neg k2',if_neg hk',yaQ,yaQ];exact SR.mk_no _ _ _
  ·have k1':¬ isW ws (i+2) ⟨#[91]⟩=true:=k1
   rw [if_neg k1,if_neg k1',yaQ,yaQ,yaQ];exact SR.mk_no _ _ _
 ·rw [if_neg k,nm_none k,yaQ,yaQ,yaQ,yaQ];exact SR.mk_no _ _ _
def DInv (ws:List W3) (F:Nat) (R:Res) (els:List T) (st:St2):Prop :=
 (st.2=true∧R=.no st.1)∨(st.2=false∧∃ g,ws.length - st.1<g∧mProg ws F g els st.1=R)
theorem advN_decl {ws:List W3} {i p:Nat} (h:mDecl ws i=.no p):i≤p:=by
 unfold mDecl at h
 split at h
 ·rcases zZQ h with h | h
  ·omega
  ·rcases yFQ h with h | h
   ·omega
   ·cases h
 ·rcases yFQ h with h | h
  ·omega
  ·rcases zZQ h with h | h
   ·omega
   ·rcases yFQ h with h | h
    ·omega
    ·split at h
     ·rcases yFQ h with h | h
      ·omega
      ·rcases yFQ h with h | h
       ·omega
       ·cases h
     ·rcases zZQ h with h | h
      ·omega
      ·rcases yFQ h with h | h
       ·omega
       ·rcases yFQ h with h | h
        ·omega
        ·cases h
theorem dinv_step {ws:List W3} {F:Nat} {R:Res} {els:List T} {j:Nat} {d:T} {st':St2} (h:DInv ws F R els (j,false)) (hj:isW ws j ⟨#[118,97,114]⟩=true∨isW ws j ⟨#[97,114,114,97,121]⟩=true) (hs:SR (mDecl ws j) (j,false) d st') :
    DInv ws F R (els++[d]) st'∧(j≤st'.1∧(st'.2=false→j<st'.1∧st'.1≤ws.length)):=by
 rcases h with ⟨h1,_⟩ | ⟨_,g,h2,h3⟩
 ·cases h1
 obtain ⟨g1,rfl⟩:∃ g1,g=g1+1:=⟨g - 1,by omega⟩
 simp only [mProg] at h3
 rw [if_pos (by rcases hj with q | q <;> simp [q])] at h3
 rcases hs.parts with ⟨k,e,rfl⟩ | ⟨p,e,rfl⟩
 ·have:=adv_decl e
  rw [e] at h3
  exact ⟨.inr ⟨rfl,g1,by simp only at h2 ⊢;omega,h3⟩,by simp only;omega,fun _=>by simp only;omega⟩
 ·have:=advN_decl e
  rw [e] at h3
  exact ⟨.inl ⟨rfl,h3.symm⟩,this,fun q=>by cases q⟩
theorem dinv_end {ws:List W3} (hw:WsOk ws) {F:Nat} (hF:3 * ws.length+2≤F) {R:Res} {els:List T} {st:St2} {x:T} {st1:St2} (h:DInv ws F R els st)
    (hn:st.2=false→isW ws st.1 ⟨#[118,97,114]⟩=false∧isW ws st.1 ⟨#[97,114,114,97,121]⟩=false)
    (h1:st.2=true→st1=st) (h2:st.2=false→st1=(seqM ws (fun _=>xFQ ws F F) F [] st.1).2∧((seqM ws (fun _=>xFQ ws F F) F [] st.1).2.2=false→x=.node 30 nil_ 0 (seqM ws (fun _=>xFQ ws F F) F [] st.1).1)) :
    SR R (0,false) (.node 40 nil_ 0 (els++[x])) (if st1.1<ws.length then (st1.1,true) else st1):=by
 rcases h with ⟨hb,hR⟩ | ⟨hb,g,hg,hR⟩
 ·rw [h1 hb,hR]
  have:(if st.1<ws.length then (st.1,true) else st)=(st.1,true):=by
   split
   ·rfl
   ·obtain ⟨i,b⟩:=st;simp only at hb;rw [hb]
  rw [this];exact SR.mk_no _ _ _
 ·obtain ⟨n1,n2⟩:=hn hb
  obtain ⟨e1,e2⟩:=h2 hb
  obtain ⟨g1,rfl⟩:∃ g1,g=g1+1:=⟨g - 1,by omega⟩
  simp only [mProg] at hR
  rw [if_neg (by rw [n1,n2];decide),seq_all hw (by omega) els F [] st.1 (by omega)] at hR
  generalize seqM ws (fun _=>xFQ ws F F) F [] st.1=S at e1 e2 hR
  obtain ⟨els2,j,c⟩:=S
  simp only at e1 e2 hR
  subst e1
  subst hR
  cases c with
  | true =>
    simp only [if_true]
    rw [show (if j<ws.length then (j,true) else (j,true))=(j,true) by split <;> rfl]
    exact SR.mk_no _ _ _
  | false =>
    rw [e2 rfl,if_neg (by decide)]
    simp only
    by_cases hj:j<ws.length
    ·rw [if_pos hj,if_pos hj];exact SR.mk_no _ _ _
    ·rw [if_neg hj,if_neg hj];exact SR.mk_ok _ _ _
def SProg (rb:Nat) (a:Option Addr) (cap:Nat) (ws:List W3) (F:Nat):Prop:=∀ w:World,Sd w rb a cap ws (0,false)→Calls Tryz.prog 94 #[.pointer (some ⟨rb,0,none⟩)] w (zcQ rb a cap ws w (mProg ws F F [] 0) (0,false))
set_option maxHeartbeats 16000000 in
theorem sprog_all {rb:Nat} {a:Option Addr} {cap:Nat} {ws:List W3} {F:Nat} (he:Env ws) (hF:5 * ws.length+3≤F) (hS:SStmt rb a cap ws F F):SProg rb a cap ws F:=by
 intro w h
 have hfew:=he.few
 have HOK:=xaQ he.ok
 have HEN:=xaQ he
 have HA:=xaQ h
 have hrb:=h.lt
 have HL:=xaQ (fun (st:St2) w h=>slist_any (rb:=rb) (a:=a) (cap:=cap) hfew (fun _=>xFQ ws F F) F (fun g j w hg hgf hd=>hS (j,false) w (by simp only;omega) hd) (fun g j t k e=>(advS ws F F).1 j t k e) (fun g j p e=>(advNS ws F F).1 j p e) st (fun _=>by omega) w h)
 generalize hR:mProg ws F F [] 0=R
 have HI0:Hid (DInv ws F R [] (0,false)):=xaQ (.inr ⟨rfl,F,by simp only;omega,hR⟩)
 have HF3:Hid (3 * ws.length+2≤F):=xaQ (by omega)
 clear hR h hS he hF
 obtain ⟨i0,hi0,hz0⟩:=Option.map_eq_some_iff.1 Tryz.info31
 simp only [Prod.mk.injEq] at hz0
 obtain ⟨hz1,hz2,hz3⟩:=hz0
 have HI:=xaQ (show Tryz.prog.info? 31=some i0∧i0.zero=some (.agg #[.int .i64 0,.string ByteArray.empty,.int .i64 0,.slice none 0 0])∧i0.size=4∧i0.bytes=56 from ⟨hi0,hz1,hz2,hz3⟩)
 clear hi0 hz1 hz2 hz3
 have hG:=SStem.start (w:=w) (heap_alloc_new w _) (HA.out.alloc _) ((Step.refl rb w).alloc _) hrb 40 ⟨#[]⟩
 have e0:(w.alloc (.cells #[.int .i64 0,.string ⟨#[]⟩,.int .i64 0,.slice none 0 0] 31)).heap.size=w.heap.size+1:=by simp
 rw [e0] at hG
 have HG:=xaQ hG
 clear hG e0
 go_enter Tryz.func94,Tryz.ntmps94
 go_wp2
 go_loopw [] (fun w'=>∃ (els:List A) (sa:Option Addr) (sc:Nat) (st':St2),SStem rb a cap ws w (w.heap.size+1) 40 ⟨#[]⟩ w' els sa sc st'∧DInv ws F R (xmQ els) st'∧els.length≤1501∧(st'.2=false→els.length≤st'.1)) (fun w'=>2 * (ws.length - posOf rb w')+badOf rb w')
 case atStart=>exact ⟨[],none,0,(0,false),HG.out,HI0.out,Nat.zero_le _,fun _=>Nat.zero_le _⟩
 case round =>
  obtain ⟨els,sa,sc,st2,hG,hI,hle,hle2⟩:=hrel
  have G0:=xaQ hG
  have I0:=xaQ hI
  have HPo:=xaQ hG.rd.pos
  obtain ⟨x0,x1,x2,_⟩:=hG.rd.cells
  obtain ⟨j,c⟩:=st2
  have HB0:=xaQ hG.rd.bad0
  simp only at x1 x2 hle hle2
  clear hG hI HG HI0
  by_cases hc:c=true
  ·subst hc
   have G2:=G0
   clear G0 HPo HB0
   obtain ⟨d0,d1,d2,d3,e0,e1,e2,e3⟩:=xcQ G2.out.here
   have hp2:=G2.out.plt
   go_wp2
   have HE:=xaQ (fun (x:T) (st1:St2) h1 h2=>dinv_end HOK.out HF3.out (x:=x) (st1:=st1) I0.out (fun h=>(by simp at h)) h1 h2)
   clear I0
   go_region_law (first | (go_simp;go_at_call 128;refine (HL.out (j,true) _ G2.out.rd.drew).mono ?_;rintro e w3 ⟨z,st3,rfl,hsz,hnz,r3,s3,hz3⟩;obtain ⟨zk,zs,zm,za,zc,zkk⟩:=z;simp only [A.val];have T3:=G2.out.drew.on s3 r3;obtain ⟨b0,b1,b2,b3,g0,g1,g2,g3⟩:=xcQ T3.here;have hp3:=T3.plt;have OW:=xaQ (T3.own.alloc (.cells #[.int .i64 zk,.string zs,.int .i64 zm,.slice za zkk.length zc] 31));have HT3:=xaQ T3;have HS3:=xaQ s3;have HZ:=xaQ hz3;have HSZ:=xaQ hsz;have HNZ:=xaQ hnz;have HR3:=xaQ r3;clear T3 s3 hz3 hsz hnz r3) | (refine step_append_lies _ (by rfl) _ _ _ (by rfl) ((w.heap.size+1)+1) 31 i0 _ 4 56 Tryz.underlying29 HI.out.1 HI.out.2.1 HI.out.2.2.1 HI.out.2.2.2 rfl (by decide) _ _ _ (by rfl) OW.out ⟨w3.heap.size,0,none⟩ 1 1 [.int .i64 zk,.string zs,.int .i64 zm,.slice za zkk.length zc] (by rfl) (by rfl) (World.news_of_block (heap_alloc_new w3 _)) (fun u hu=>by simp at hu;rcases hu with rfl | rfl | rfl | rfl <;> rfl) (by decide) (by unfold maxLen;omega) (by omega) (by simp;omega) (w3.heap.size+1) (by simp) ?_;intro g cq w4 hown hgrow hat hlt4;have GP:=xaQ (SStem.push (x:=.node zk zs zm za zc zkk) G2.out.drew HS3.out HR3.out HSZ.out HNZ.out _ hown hgrow hat);have K4:=(hgrow.block (w.heap.size+1) (by simp;omega) (fun e=>absurd (OW.out.lt _ e.symm).1 (Nat.not_succ_le_self _))).trans ((Lib.alloc_old w3 _ _ hp3).trans HT3.out.here);clear b0 b1 b2 b3 g0 g1 g2 g3;obtain ⟨l0,l1,l2,l3,m0,m1,m2,m3⟩:=xcQ K4;clear K4 hown hgrow hat OW HS3 HSZ HNZ HR3))
   all_goals
    have HL3:=xaQ (HE.out _ _ HZ.out.1 HZ.out.2)
    clear l0 l1 l2 l3 m0 m1 m2 m3
    generalize hW:w4.setCell ⟨w.heap.size+1,3,none⟩ (.slice (some ⟨g,0,none⟩) (els.length+1) cq)=W at GP ⊢
    clear hW
    obtain ⟨j3,c3⟩:=st3
    obtain ⟨x0,x1,x2,y1,y2⟩:=GP.out.rd.cells
    simp only at x1 x2
    by_cases hl:j3<ws.length
    ·have hl1:decide ((j3:Int)<(ws.length:Int))=true:=by simp;omega
     have HJ:=xaQ (show (if (j3,c3).1<ws.length then ((j3,c3).1,true) else (j3,c3))=(j3,true) from if_pos hl)
     go_wp2
     go_quiet (fail)
     have GQ:=xaQ (GP.out.on (((Step.refl rb W).drewN nq).setCell (p:=⟨rb,2,none⟩) (.inr rfl) (.bool true)) (GP.out.rd.drewN nq).badly)
     have y3:(W.drewN nq).frozen? ⟨rb,2,none⟩=false:=y2
     generalize hV:(W.drewN nq).setCell ⟨rb,2,none⟩ (.bool true)=V at GQ
     have HV:=xaQ hV
     obtain ⟨d0,d1,d2,d3,_⟩:=xcQ GQ.out.here
     obtain ⟨c0,c1,c2,c4,f0,f1,f2,f3⟩:=xcQ GQ.out.res
     rw [← hV] at d0 d1 d2 d3 c0 c1 c2 c4 f0 f1 f2 f3
     clear hV
     go_wp2
     rw [HV.out]
     obtain ⟨q0,q1,q2,q3⟩:=xhQ GQ.out.res (.int .i64 40) (.string ⟨#[]⟩) (.int .i64 0) (.slice (some ⟨g,0,none⟩) (els.length+1) cq)
     obtain ⟨t1,t2⟩:=GQ.out.tree (by decide) (by simp only [List.length_append,List.length_cons,List.length_nil];unfold maxLen;omega)
     exact bodyPost_ret (v:=(A.node 40 ⟨#[]⟩ 0 (some ⟨g,0,none⟩) cq (els++[A.node zk zs zm za zc zkk])).val) (by simp [results,Tryz.results94,go_sem,q0,q1,q2,q3,A.val]) rfl (yGQ _ _ _ _ _ GQ.out.rd hrb GQ.out.step t1 t2 (by omega) (by have:=HL3.out;rw [HJ.out] at this;simp only [A.erase,xvQ,xmQ] at this ⊢;exact this))
    ·have hl1:decide ((j3:Int)<(ws.length:Int))=false:=by simp;omega
     have HJ:=xaQ (show (if (j3,c3).1<ws.length then ((j3,c3).1,true) else (j3,c3))=(j3,c3) from if_neg hl)
     go_wp2
     go_quiet (fail)
     have GQ:=xaQ (GP.out.on ((Step.refl rb W).drewN nq) (GP.out.rd.drewN nq))
     obtain ⟨d0,d1,d2,d3,_⟩:=xcQ GQ.out.here
     obtain ⟨c0,c1,c2,c4,f0,f1,f2,f3⟩:=xcQ GQ.out.res
     generalize W.drewN nq=V at GQ d0 d1 d2 d3 c0 c1 c2 c4 f0 f1 f2 f3 ⊢
     clear x0 x1 x2 y1 y2
     go_wp2
     obtain ⟨q0,q1,q2,q3⟩:=xhQ GQ.out.res (.int .i64 40) (.string ⟨#[]⟩) (.int .i64 0) (.slice (some ⟨g,0,none⟩) (els.length+1) cq)
     obtain ⟨t1,t2⟩:=GQ.out.tree (by decide) (by simp only [List.length_append,List.length_cons,List.length_nil];unfold maxLen;omega)
     exact bodyPost_ret (v:=(A.node 40 ⟨#[]⟩ 0 (some ⟨g,0,none⟩) cq (els++[A.node zk zs zm za zc zkk])).val) (by simp [results,Tryz.results94,go_sem,q0,q1,q2,q3,A.val]) rfl (yGQ _ _ _ _ _ GQ.out.rd hrb GQ.out.step t1 t2 (by omega) (by have:=HL3.out;rw [HJ.out] at this;simp only [A.erase,xvQ,xmQ] at this ⊢;exact this))
  ·have hc2:c=false:=by simpa using hc
   subst hc2
   clear hc
   have hlj:=hle2 rfl
   have hD:rb<wr.heap.size:=G0.out.rd.lt
   have hnm:=name_len HEN.out (j+1,false)
   have CN:=xaQ (fun w h=>sNm_any rb a cap ws (j+1,false) w h)
   have CS:=xaQ (fun st w h=>xQQ rb a cap ws st ⟨#[59]⟩ (by decide) w h)
   by_cases hv:isW ws j ⟨#[118,97,114]⟩=true
   ·have hjl:=yCQ hv
    have C0:=xaQ (fun w h=>x2Q rb a cap ws (j,false) ⟨#[118,97,114]⟩ (by decide) w h (by rw [xoQ];exact hv))
    have HV:=xaQ hv
    have HSR:=xaQ (sr_dvar hv)
    generalize nmT ws (j+1,false)=nm at CN HSR hnm
    clear hv
    go_wp2_with fail
    refine (C0.out _ (G0.out.rd.alloc _)).mono ?_
    rintro e w1 ⟨rfl,r,s⟩
    have R1:=xaQ r
    have S1:=xaQ (((Step.refl rb wr).alloc _).trans s)
    have D1:=xaQ (s.at (heap_alloc_new wr _) (by omega))
    clear r s
    go_wp2_with fail
    refine (CN.out _ R1.out).mono ?_
    rintro e w2 ⟨rfl,r,s⟩
    have R2:=xaQ r
    have S2:=xaQ (S1.out.trans s)
    have D2:=xaQ (s.at D1.out (by omega))
    clear r s
    obtain ⟨_,_,_,_,v0,v1,v2,v3⟩:=xcQ D2.out
    obtain ⟨u0,u1,u2,u3,_⟩:=xcQ D2.out
    have RA:=xaQ (zvQ R2.out hD (.int .i64 31) (.string nm) (.int .i64 0) (.slice none 0 0))
    have SA:=xaQ (yzQ S2.out (Nat.le_refl _) (.int .i64 31) (.string nm) (.int .i64 0) (.slice none 0 0))
    have DA:=xaQ (zLQ D2.out (.int .i64 31) (.string nm) (.int .i64 0) (.slice none 0 0))
    clear R2 S2 D2
    go_wp2_with fail
    refine (CS.out (nmS ws (j+1,false)) _ RA.out).mono ?_
    rintro e w3 ⟨rfl,r,s⟩
    have R3:=xaQ r
    have S3:=xaQ (SA.out.trans s)
    have D3:=xaQ (s.at DA.out (by omega))
    clear r s
    clear RA SA DA u0 u1 u2 u3 v0 v1 v2 v3 x0 x1 x2 CN CS C0
    have G:=xaQ (G0.out.on S3.out R3.out)
    have HST:=xaQ (dinv_step I0.out (.inl HV.out) (HSR.out))
    have OW:=xaQ (G.out.own.alloc (.cells #[.int .i64 31,.string nm,.int .i64 0,.slice none 0 0] 31))
    obtain ⟨p0,p1,p2,p3,o0,o1,o2,o3⟩:=xcQ G.out.here
    obtain ⟨d0,d1,d2,d3,_⟩:=xcQ D3.out
    have hpl:=G.out.plt
    have hdl:=(Array.getElem?_eq_some_iff.1 D3.out).1
    clear I0 S3 D3
    go_wp2_with (at_builtin;refine wpList_append_lies _ rfl _ _ 29 rfl (w.heap.size+1+1) 31 i0 (.agg #[.int .i64 0,.string ByteArray.empty,.int .i64 0,.slice none 0 0]) 4 56 Tryz.underlying29 HI.out.1 HI.out.2.1 HI.out.2.2.1 HI.out.2.2.2 rfl (by decide) _ _ _ rfl OW.out ⟨w3.heap.size,0,none⟩ 1 1 [.int .i64 31,.string nm,.int .i64 0,.slice none 0 0] rfl rfl ?c1a ?c2a (by decide) ?c3a ?c4a ?c5a (w3.heap.size+1) (by simp) ?_)
    case c1a=>exact World.news_of_block (heap_alloc_new w3 _)
    case c2a=>intro u hu;simp at hu;rcases hu with rfl | rfl | rfl | rfl <;> rfl
    case c3a=>unfold maxLen;omega
    case c4a=>omega
    case c5a=>simp;omega
    intro g cq wz hown hgrow hat hlt4
    have GP:=xaQ (SStem.push (x:=.node 31 nm 0 none 0 []) G.out (Step.refl rb w3) R3.out (Sits.leaf _ _ _ hnm) (New.leaf _ _ _ _ _ _) _ hown hgrow hat)
    have K4:=(hgrow.block (w.heap.size+1) (by simp;omega) (fun e=>absurd (OW.out.lt _ e.symm).1 (Nat.not_succ_le_self _))).trans ((Lib.alloc_old w3 _ _ hpl).trans G.out.here)
    obtain ⟨l0,l1,l2,l3,m0,m1,m2,m3⟩:=xcQ K4
    clear K4 hown hgrow hat OW G R3 p0 p1 p2 p3 o0 o1 o2 o3 d0 d1 d2 d3 hlt4
    go_wp2
    go_roundw
    case rel=>exact ⟨_,_,_,_,GP.out,by rw [xvQ];simp only [xmQ,A.erase];exact HST.out.1,by simp;omega,fun hq=>by have:=HST.out.2.2 hq;simp;omega⟩
    case measure =>
     rw [HPo.out,HB0.out]
     have h1:=GP.out.rd.pos
     have h2:=HST.out.2
     generalize hq:nd ws _ ⟨#[59]⟩=st3 at GP h1 h2
     obtain ⟨j3,c3⟩:=st3
     have h3:=GP.out.rd.bad0
     refine Nat.lt_of_le_of_lt (Nat.le_of_eq (congrArg (fun q=>2 * (ws.length - q)+_) h1)) ?_
     refine Nat.lt_of_le_of_lt (Nat.le_of_eq (congrArg (fun q=>2 * (ws.length - _)+q) h3)) ?_
     simp only at h2 ⊢
     cases c3 with
     | true=>simp;omega
     | false=>have:=h2.2 rfl;simp;omega
   simp only [Bool.not_eq_true] at hv
   have C0:=xaQ (fun w h=>xjQ rb a cap ws (j,false) ⟨#[118,97,114]⟩ (by decide) w h (by rw [xoQ];exact hv))
   by_cases ha:isW ws j ⟨#[97,114,114,97,121]⟩=true
   ·have hjl:=yCQ ha
    have C1:=xaQ (fun w h=>x2Q rb a cap ws (j,false) ⟨#[97,114,114,97,121]⟩ (by decide) w h (by rw [xoQ];exact ha))
    have HV:=xaQ ha
    have HSN:=xaQ (fun q hb k2=>sr_dnum HOK.out (j:=q) ha hb k2)
    have HSA:=xaQ (fun hk=>sr_dany ha hk)
    generalize nmT ws (j+1,false)=nm at CN HSN HSA hnm
    clear hv ha
    have CB:=xaQ (fun w h=>xQQ rb a cap ws (nmS ws (j+1,false)) ⟨#[91]⟩ (by decide) w h)
    have CQ:=xaQ (fun st w h=>xQQ rb a cap ws st ⟨#[63]⟩ (by decide) w h)
    have CC:=xaQ (fun st w h=>xQQ rb a cap ws st ⟨#[93]⟩ (by decide) w h)
    generalize nd ws (nmS ws (j+1,false)) ⟨#[91]⟩=sB at CB HSN HSA
    go_wp2_with fail
    refine (C0.out _ (G0.out.rd.alloc _)).mono ?_
    rintro e w1 ⟨rfl,r,s⟩
    have R1:=xaQ r
    have S1:=xaQ (((Step.refl rb wr).alloc _).trans s)
    have D1:=xaQ (s.at (heap_alloc_new wr _) (by omega))
    clear r s
    go_wp2_with fail
    refine (C1.out _ R1.out).mono ?_
    rintro e w2 ⟨rfl,r,s⟩
    have R2:=xaQ r
    have S2:=xaQ (S1.out.trans s)
    have D2:=xaQ (s.at D1.out (by omega))
    clear r s
    go_wp2_with fail
    refine (CN.out _ R2.out).mono ?_
    rintro e w3 ⟨rfl,r,s⟩
    have R3:=xaQ r
    have S3:=xaQ (S2.out.trans s)
    have D3:=xaQ (s.at D2.out (by omega))
    clear r s
    obtain ⟨_,_,_,_,v0,v1,v2,v3⟩:=xcQ D3.out
    obtain ⟨u0,u1,u2,u3,_⟩:=xcQ D3.out
    have RA:=xaQ (zvQ R3.out hD (.int .i64 32) (.string nm) (.int .i64 (-1)) (.slice none 0 0))
    have SA:=xaQ (yzQ S3.out (Nat.le_refl _) (.int .i64 32) (.string nm) (.int .i64 (-1)) (.slice none 0 0))
    have DA:=xaQ (zLQ D3.out (.int .i64 32) (.string nm) (.int .i64 (-1)) (.slice none 0 0))
    clear R3 S3 D3
    go_wp2_with fail
    refine (CB.out _ RA.out).mono ?_
    rintro e w4 ⟨rfl,r,s⟩
    have R4:=xaQ r
    have S4:=xaQ (SA.out.trans s)
    have D4:=xaQ (s.at DA.out (by omega))
    clear r s
    clear RA SA DA u0 u1 u2 u3 v0 v1 v2 v3 x0 x1 x2 CN CB C0 C1
    obtain ⟨q,cb⟩:=sB
    obtain ⟨k0,k1,k2,_⟩:=R4.out.cells
    simp only at k1 k2
    cases cb with
    | true =>
     go_wp2_with fail
     refine (CQ.out (q,true) _ R4.out).mono ?_
     rintro e w5 ⟨rfl,r,s⟩
     have R5:=xaQ r
     have S5:=xaQ (S4.out.trans s)
     have D5:=xaQ (s.at D4.out (by omega))
     clear r s
     go_wp2_with fail
     refine (CC.out (nd ws (q,true) ⟨#[63]⟩) _ R5.out).mono ?_
     rintro e w6 ⟨rfl,r,s⟩
     have R6:=xaQ r
     have S6:=xaQ (S5.out.trans s)
     have D6:=xaQ (s.at D5.out (by omega))
     clear r s
     go_wp2_with fail
     refine (CS.out (nd ws (nd ws (q,true) ⟨#[63]⟩) ⟨#[93]⟩) _ R6.out).mono ?_
     rintro e w7 ⟨rfl,r,s⟩
     have R7:=xaQ r
     have S7:=xaQ (S6.out.trans s)
     have D7:=xaQ (s.at D6.out (by omega))
     clear r s
     clear CQ CC CS
     have G:=xaQ (G0.out.on S7.out R7.out)
     have HST:=xaQ (dinv_step I0.out (.inr HV.out) (HSA.out (fun _ h=>(by cases h))))
     have OW:=xaQ (G.out.own.alloc (.cells #[.int .i64 32,.string nm,.int .i64 (-1),.slice none 0 0] 31))
     obtain ⟨p0,p1,p2,p3,o0,o1,o2,o3⟩:=xcQ G.out.here
     obtain ⟨d0,d1,d2,d3,_⟩:=xcQ D7.out
     have hpl:=G.out.plt
     have hdl:=(Array.getElem?_eq_some_iff.1 D7.out).1
     clear I0 S7 D7
     go_wp2_with (at_builtin;refine wpList_append_lies _ rfl _ _ 29 rfl (w.heap.size+1+1) 31 i0 (.agg #[.int .i64 0,.string ByteArray.empty,.int .i64 0,.slice none 0 0]) 4 56 Tryz.underlying29 HI.out.1 HI.out.2.1 HI.out.2.2.1 HI.out.2.2.2 rfl (by decide) _ _ _ rfl OW.out ⟨w7.heap.size,0,none⟩ 1 1 [.int .i64 32,.string nm,.int .i64 (-1),.slice none 0 0] rfl rfl ?c1b ?c2b (by decide) ?c3b ?c4b ?c5b (w7.heap.size+1) (by simp) ?_)
     case c1b=>exact World.news_of_block (heap_alloc_new w7 _)
     case c2b=>intro u hu;simp at hu;rcases hu with rfl | rfl | rfl | rfl <;> rfl
     case c3b=>unfold maxLen;omega
     case c4b=>omega
     case c5b=>simp;omega
     intro g cq wz hown hgrow hat hlt4
     have GP:=xaQ (SStem.push (x:=.node 32 nm (-1) none 0 []) G.out (Step.refl rb w7) R7.out (Sits.leaf _ _ _ hnm) (New.leaf _ _ _ _ _ _) _ hown hgrow hat)
     have K4:=(hgrow.block (w.heap.size+1) (by simp;omega) (fun e=>absurd (OW.out.lt _ e.symm).1 (Nat.not_succ_le_self _))).trans ((Lib.alloc_old w7 _ _ hpl).trans G.out.here)
     obtain ⟨l0,l1,l2,l3,m0,m1,m2,m3⟩:=xcQ K4
     clear K4 hown hgrow hat OW G R7 p0 p1 p2 p3 o0 o1 o2 o3 d0 d1 d2 d3 hlt4
     go_wp2
     go_roundw
     case rel=>exact ⟨_,_,_,_,GP.out,by rw [xvQ];simp only [xmQ,A.erase];exact HST.out.1,by simp;omega,fun hq=>by have:=HST.out.2.2 hq;simp;omega⟩
     case measure =>
      rw [HPo.out,HB0.out]
      have h1:=GP.out.rd.pos
      have h2:=HST.out.2
      generalize hq:nd ws _ ⟨#[59]⟩=st3 at GP h1 h2
      obtain ⟨j3,c3⟩:=st3
      have h3:=GP.out.rd.bad0
      refine Nat.lt_of_le_of_lt (Nat.le_of_eq (congrArg (fun q=>2 * (ws.length - q)+_) h1)) ?_
      refine Nat.lt_of_le_of_lt (Nat.le_of_eq (congrArg (fun q=>2 * (ws.length - _)+q) h3)) ?_
      simp only at h2 ⊢
      cases c3 with
      | true=>simp;omega
      | false=>have:=h2.2 rfl;simp;omega
    | false =>
     have CK:=xaQ (fun w h=>sKind_st rb a cap ws (q,false) w h)
     go_wp2_with fail
     refine (CK.out _ R4.out).mono ?_
     rintro e w5 ⟨rfl,r,s⟩
     have R5:=xaQ r
     have S5:=xaQ (S4.out.trans s)
     have D5:=xaQ (s.at D4.out (by omega))
     clear r s
     clear k0 k1 k2 CK
     by_cases hk:xTQ ws q=2
     ·have hk1:(xTQ ws q == 2)=true:=by rw [hk];rfl
      have hns:=num_short (word_num HOK.out hk)
      have HSR:=xaQ (HSN.out q rfl hk)
      have hql:=kindW_lt hk (by decide)
      have CT:=xaQ (fun w h=>sText_st rb a cap ws (q,false) w h)
      simp only at CT
      clear hk HSA HSN
      go_wp2_with fail
      refine (CT.out _ R5.out).mono ?_
      rintro e w6 ⟨rfl,r,s⟩
      have R6:=xaQ r
      have S6:=xaQ (S5.out.trans s)
      have D6:=xaQ (s.at D5.out (by omega))
      clear r s
      generalize xPQ ws q=tx at hns HSR ⊢
      go_wp2_with fail
      refine (zKQ tx _ (by unfold maxLen;omega)).mono ?_
      rintro e w9 ⟨rfl,rfl⟩
      obtain ⟨k0,k1,k2,y1,y2⟩:=R6.out.cells
      simp only at k1 k2
      obtain ⟨u0,u1,u2,u3,v0,v1,v2,v3⟩:=xcQ D6.out
      generalize numV tx=nv at HSR ⊢
      have ne1:¬ (wr.heap.size=rb):=by omega
      have ne2:¬ (rb=wr.heap.size):=by omega
      have RA:=(R6.out.setCell (p:=⟨wr.heap.size,2,none⟩) hD (.int .i64 nv)).next (q+1)
      have SA:=(S6.out.setCell (p:=⟨wr.heap.size,2,none⟩) (.inl (Nat.le_refl _)) (.int .i64 nv)).setCell (p:=⟨rb,1,none⟩) (.inr rfl) (.int .i64 ((q+1:Nat):Int))
      have DA:=(Below.heap_setCell (w6.setCell ⟨wr.heap.size,2,none⟩ (.int .i64 nv)) ⟨rb,1,none⟩ (.int .i64 ((q+1:Nat):Int)) wr.heap.size ne1).trans (heap_setCell_same w6 wr.heap.size 2 _ 31 (.int .i64 nv) D6.out)
      have hcast:((q+1:Nat):Int)=(q:Int)+1:=by omega
      rw [hcast] at RA SA DA
      have HRA:=xaQ RA
      have HSA':=xaQ SA
      have HDA:=xaQ (show _=some (Obj.cells #[.int .i64 32,.string nm,.int .i64 nv,.slice none 0 0] 31 (0,0)) from DA)
      clear RA SA DA hcast R6 S6 D6 CT
      go_wp2_with fail
      refine (CC.out (q+1,false) _ HRA.out).mono ?_
      rintro e w7 ⟨rfl,r,s⟩
      have R7:=xaQ r
      have S7:=xaQ (HSA'.out.trans s)
      have D7:=xaQ (s.at HDA.out (by omega))
      clear r s
      go_wp2_with fail
      refine (CS.out (nd ws (q+1,false) ⟨#[93]⟩) _ R7.out).mono ?_
      rintro e w8 ⟨rfl,r,s⟩
      have R8:=xaQ r
      have S8:=xaQ (S7.out.trans s)
      have D8:=xaQ (s.at D7.out (by omega))
      clear r s
      clear CQ CC CS k0 k1 k2 y1 y2 u0 u1 u2 u3 v0 v1 v2 v3 ne1 ne2 HRA HSA' HDA
      have G:=xaQ (G0.out.on S8.out R8.out)
      have HST:=xaQ (dinv_step I0.out (.inr HV.out) (HSR.out))
      have OW:=xaQ (G.out.own.alloc (.cells #[.int .i64 32,.string nm,.int .i64 nv,.slice none 0 0] 31))
      obtain ⟨p0,p1,p2,p3,o0,o1,o2,o3⟩:=xcQ G.out.here
      obtain ⟨d0,d1,d2,d3,_⟩:=xcQ D8.out
      have hpl:=G.out.plt
      have hdl:=(Array.getElem?_eq_some_iff.1 D8.out).1
      clear I0 S8 D8
      go_wp2_with (at_builtin;refine wpList_append_lies _ rfl _ _ 29 rfl (w.heap.size+1+1) 31 i0 (.agg #[.int .i64 0,.string ByteArray.empty,.int .i64 0,.slice none 0 0]) 4 56 Tryz.underlying29 HI.out.1 HI.out.2.1 HI.out.2.2.1 HI.out.2.2.2 rfl (by decide) _ _ _ rfl OW.out ⟨w8.heap.size,0,none⟩ 1 1 [.int .i64 32,.string nm,.int .i64 nv,.slice none 0 0] rfl rfl ?c1c ?c2c (by decide) ?c3c ?c4c ?c5c (w8.heap.size+1) (by simp) ?_)
      case c1c=>exact World.news_of_block (heap_alloc_new w8 _)
      case c2c=>intro u hu;simp at hu;rcases hu with rfl | rfl | rfl | rfl <;> rfl
      case c3c=>unfold maxLen;omega
      case c4c=>omega
      case c5c=>simp;omega
      intro g cq wz hown hgrow hat hlt4
      have GP:=xaQ (SStem.push (x:=.node 32 nm nv none 0 []) G.out (Step.refl rb w8) R8.out (Sits.leaf _ _ _ hnm) (New.leaf _ _ _ _ _ _) _ hown hgrow hat)
      have K4:=(hgrow.block (w.heap.size+1) (by simp;omega) (fun e=>absurd (OW.out.lt _ e.symm).1 (Nat.not_succ_le_self _))).trans ((Lib.alloc_old w8 _ _ hpl).trans G.out.here)
      obtain ⟨l0,l1,l2,l3,m0,m1,m2,m3⟩:=xcQ K4
      clear K4 hown hgrow hat OW G R8 p0 p1 p2 p3 o0 o1 o2 o3 d0 d1 d2 d3 hlt4
      go_wp2
      go_roundw
      case rel=>exact ⟨_,_,_,_,GP.out,by rw [xvQ];simp only [xmQ,A.erase];exact HST.out.1,by simp;omega,fun hq=>by have:=HST.out.2.2 hq;simp;omega⟩
      case measure =>
       rw [HPo.out,HB0.out]
       have h1:=GP.out.rd.pos
       have h2:=HST.out.2
       generalize hq:nd ws _ ⟨#[59]⟩=st3 at GP h1 h2
       obtain ⟨j3,c3⟩:=st3
       have h3:=GP.out.rd.bad0
       refine Nat.lt_of_le_of_lt (Nat.le_of_eq (congrArg (fun q=>2 * (ws.length - q)+_) h1)) ?_
       refine Nat.lt_of_le_of_lt (Nat.le_of_eq (congrArg (fun q=>2 * (ws.length - _)+q) h3)) ?_
       simp only at h2 ⊢
       cases c3 with
       | true=>simp;omega
       | false=>have:=h2.2 rfl;simp;omega
     ·have hk1:(xTQ ws q == 2)=false:=by simpa using hk
      have HK:=xaQ hk
      clear hk
      go_wp2_with fail
      refine (CQ.out (q,false) _ R5.out).mono ?_
      rintro e w6 ⟨rfl,r,s⟩
      have R6:=xaQ r
      have S6:=xaQ (S5.out.trans s)
      have D6:=xaQ (s.at D5.out (by omega))
      clear r s
      go_wp2_with fail
      refine (CC.out (nd ws (q,false) ⟨#[63]⟩) _ R6.out).mono ?_
      rintro e w7 ⟨rfl,r,s⟩
      have R7:=xaQ r
      have S7:=xaQ (S6.out.trans s)
      have D7:=xaQ (s.at D6.out (by omega))
      clear r s
      go_wp2_with fail
      refine (CS.out (nd ws (nd ws (q,false) ⟨#[63]⟩) ⟨#[93]⟩) _ R7.out).mono ?_
      rintro e w8 ⟨rfl,r,s⟩
      have R8:=xaQ r
      have S8:=xaQ (S7.out.trans s)
      have D8:=xaQ (s.at D7.out (by omega))
      clear r s
      clear CQ CC CS
      have G:=xaQ (G0.out.on S8.out R8.out)
      have HST:=xaQ (dinv_step I0.out (.inr HV.out) (HSA.out (fun q2 h=>(by injection h with h;subst h;exact HK.out))))
      have OW:=xaQ (G.out.own.alloc (.cells #[.int .i64 32,.string nm,.int .i64 (-1),.slice none 0 0] 31))
      obtain ⟨p0,p1,p2,p3,o0,o1,o2,o3⟩:=xcQ G.out.here
      obtain ⟨d0,d1,d2,d3,_⟩:=xcQ D8.out
      have hpl:=G.out.plt
      have hdl:=(Array.getElem?_eq_some_iff.1 D8.out).1
      clear I0 S8 D8
      go_wp2_with (at_builtin;refine wpList_append_lies _ rfl _ _ 29 rfl (w.heap.size+1+1) 31 i0 (.agg #[.int .i64 0,.string ByteArray.empty,.int .i64 0,.slice none 0 0]) 4 56 Tryz.underlying29 HI.out.1 HI.out.2.1 HI.out.2.2.1 HI.out.2.2.2 rfl (by decide) _ _ _ rfl OW.out ⟨w8.heap.size,0,none⟩ 1 1 [.int .i64 32,.string nm,.int .i64 (-1),.slice none 0 0] rfl rfl ?c1d ?c2d (by decide) ?c3d ?c4d ?c5d (w8.heap.size+1) (by simp) ?_)
      case c1d=>exact World.news_of_block (heap_alloc_new w8 _)
      case c2d=>intro u hu;simp at hu;rcases hu with rfl | rfl | rfl | rfl <;> rfl
      case c3d=>unfold maxLen;omega
      case c4d=>omega
      case c5d=>simp;omega
      intro g cq wz hown hgrow hat hlt4
      have GP:=xaQ (SStem.push (x:=.node 32 nm (-1) none 0 []) G.out (Step.refl rb w8) R8.out (Sits.leaf _ _ _ hnm) (New.leaf _ _ _ _ _ _) _ hown hgrow hat)
      have K4:=(hgrow.block (w.heap.size+1) (by simp;omega) (fun e=>absurd (OW.out.lt _ e.symm).1 (Nat.not_succ_le_self _))).trans ((Lib.alloc_old w8 _ _ hpl).trans G.out.here)
      obtain ⟨l0,l1,l2,l3,m0,m1,m2,m3⟩:=xcQ K4
      clear K4 hown hgrow hat OW G R8 p0 p1 p2 p3 o0 o1 o2 o3 d0 d1 d2 d3 hlt4
      go_wp2
      go_roundw
      case rel=>exact ⟨_,_,_,_,GP.out,by rw [xvQ];simp only [xmQ,A.erase];exact HST.out.1,by simp;omega,fun hq=>by have:=HST.out.2.2 hq;simp;omega⟩
      case measure =>
       rw [HPo.out,HB0.out]
       have h1:=GP.out.rd.pos
       have h2:=HST.out.2
       generalize hq:nd ws _ ⟨#[59]⟩=st3 at GP h1 h2
       obtain ⟨j3,c3⟩:=st3
       have h3:=GP.out.rd.bad0
       refine Nat.lt_of_le_of_lt (Nat.le_of_eq (congrArg (fun q=>2 * (ws.length - q)+_) h1)) ?_
       refine Nat.lt_of_le_of_lt (Nat.le_of_eq (congrArg (fun q=>2 * (ws.length - _)+q) h3)) ?_
       simp only at h2 ⊢
       cases c3 with
       | true=>simp;omega
       | false=>have:=h2.2 rfl;simp;omega
   ·simp only [Bool.not_eq_true] at ha
    have C1:=xaQ (fun w h=>xjQ rb a cap ws (j,false) ⟨#[97,114,114,97,121]⟩ (by decide) w h (by rw [xoQ];exact ha))
    have HN0:=xaQ (And.intro hv ha)
    clear hv ha CN CS
    go_wp2_with fail
    refine (C0.out _ (G0.out.rd.alloc _)).mono ?_
    rintro e w1 ⟨rfl,r,s⟩
    have R1:=xaQ r
    have S1:=xaQ (((Step.refl rb wr).alloc _).trans s)
    have D1:=xaQ (s.at (heap_alloc_new wr _) (by omega))
    clear r s
    go_wp2_with fail
    refine (C1.out _ R1.out).mono ?_
    rintro e w2 ⟨rfl,r,s⟩
    have R2:=xaQ r
    have S2:=xaQ (S1.out.trans s)
    have D2:=xaQ (s.at D1.out (by omega))
    clear r s
    have G2:=xaQ (G0.out.on S2.out R2.out)
    clear G0 HPo HB0 R1 S1 D1 R2 S2 D2 C0 C1 x0 x1 x2 hnm
    obtain ⟨d0,d1,d2,d3,e0,e1,e2,e3⟩:=xcQ G2.out.here
    have hp2:=G2.out.plt
    go_wp2
    have HE:=xaQ (fun (x:T) (st1:St2) h1 h2=>dinv_end HOK.out HF3.out (x:=x) (st1:=st1) I0.out (fun _=>HN0.out) h1 h2)
    clear I0
    go_region_law (first | (go_simp;go_at_call 128;refine (HL.out (j,false) _ G2.out.rd.drew).mono ?_;rintro e w3 ⟨z,st3,rfl,hsz,hnz,r3,s3,hz3⟩;obtain ⟨zk,zs,zm,za,zc,zkk⟩:=z;simp only [A.val];have T3:=G2.out.drew.on s3 r3;obtain ⟨b0,b1,b2,b3,g0,g1,g2,g3⟩:=xcQ T3.here;have hp3:=T3.plt;have OW:=xaQ (T3.own.alloc (.cells #[.int .i64 zk,.string zs,.int .i64 zm,.slice za zkk.length zc] 31));have HT3:=xaQ T3;have HS3:=xaQ s3;have HZ:=xaQ hz3;have HSZ:=xaQ hsz;have HNZ:=xaQ hnz;have HR3:=xaQ r3;clear T3 s3 hz3 hsz hnz r3) | (refine step_append_lies _ (by rfl) _ _ _ (by rfl) ((w.heap.size+1)+1) 31 i0 _ 4 56 Tryz.underlying29 HI.out.1 HI.out.2.1 HI.out.2.2.1 HI.out.2.2.2 rfl (by decide) _ _ _ (by rfl) OW.out ⟨w3.heap.size,0,none⟩ 1 1 [.int .i64 zk,.string zs,.int .i64 zm,.slice za zkk.length zc] (by rfl) (by rfl) (World.news_of_block (heap_alloc_new w3 _)) (fun u hu=>by simp at hu;rcases hu with rfl | rfl | rfl | rfl <;> rfl) (by decide) (by unfold maxLen;omega) (by omega) (by simp;omega) (w3.heap.size+1) (by simp) ?_;intro g cq w4 hown hgrow hat hlt4;have GP:=xaQ (SStem.push (x:=.node zk zs zm za zc zkk) G2.out.drew HS3.out HR3.out HSZ.out HNZ.out _ hown hgrow hat);have K4:=(hgrow.block (w.heap.size+1) (by simp;omega) (fun e=>absurd (OW.out.lt _ e.symm).1 (Nat.not_succ_le_self _))).trans ((Lib.alloc_old w3 _ _ hp3).trans HT3.out.here);clear b0 b1 b2 b3 g0 g1 g2 g3;obtain ⟨l0,l1,l2,l3,m0,m1,m2,m3⟩:=xcQ K4;clear K4 hown hgrow hat OW HS3 HSZ HNZ HR3))
    all_goals
     have HL3:=xaQ (HE.out _ _ HZ.out.1 HZ.out.2)
     clear l0 l1 l2 l3 m0 m1 m2 m3
     generalize hW:w4.setCell ⟨w.heap.size+1,3,none⟩ (.slice (some ⟨g,0,none⟩) (els.length+1) cq)=W at GP ⊢
     clear hW
     obtain ⟨j3,c3⟩:=st3
     obtain ⟨x0,x1,x2,y1,y2⟩:=GP.out.rd.cells
     simp only at x1 x2
     by_cases hl:j3<ws.length
     ·have hl1:decide ((j3:Int)<(ws.length:Int))=true:=by simp;omega
      have HJ:=xaQ (show (if (j3,c3).1<ws.length then ((j3,c3).1,true) else (j3,c3))=(j3,true) from if_pos hl)
      go_wp2
      go_quiet (fail)
      have GQ:=xaQ (GP.out.on (((Step.refl rb W).drewN nq).setCell (p:=⟨rb,2,none⟩) (.inr rfl) (.bool true)) (GP.out.rd.drewN nq).badly)
      have y3:(W.drewN nq).frozen? ⟨rb,2,none⟩=false:=y2
      generalize hV:(W.drewN nq).setCell ⟨rb,2,none⟩ (.bool true)=V at GQ
      have HV:=xaQ hV
      obtain ⟨d0,d1,d2,d3,_⟩:=xcQ GQ.out.here
      obtain ⟨c0,c1,c2,c4,f0,f1,f2,f3⟩:=xcQ GQ.out.res
      rw [← hV] at d0 d1 d2 d3 c0 c1 c2 c4 f0 f1 f2 f3
      clear hV
      go_wp2
      rw [HV.out]
      obtain ⟨q0,q1,q2,q3⟩:=xhQ GQ.out.res (.int .i64 40) (.string ⟨#[]⟩) (.int .i64 0) (.slice (some ⟨g,0,none⟩) (els.length+1) cq)
      obtain ⟨t1,t2⟩:=GQ.out.tree (by decide) (by simp only [List.length_append,List.length_cons,List.length_nil];unfold maxLen;omega)
      exact bodyPost_ret (v:=(A.node 40 ⟨#[]⟩ 0 (some ⟨g,0,none⟩) cq (els++[A.node zk zs zm za zc zkk])).val) (by simp [results,Tryz.results94,go_sem,q0,q1,q2,q3,A.val]) rfl (yGQ _ _ _ _ _ GQ.out.rd hrb GQ.out.step t1 t2 (by omega) (by have:=HL3.out;rw [HJ.out] at this;simp only [A.erase,xvQ,xmQ] at this ⊢;exact this))
     ·have hl1:decide ((j3:Int)<(ws.length:Int))=false:=by simp;omega
      have HJ:=xaQ (show (if (j3,c3).1<ws.length then ((j3,c3).1,true) else (j3,c3))=(j3,c3) from if_neg hl)
      go_wp2
      go_quiet (fail)
      have GQ:=xaQ (GP.out.on ((Step.refl rb W).drewN nq) (GP.out.rd.drewN nq))
      obtain ⟨d0,d1,d2,d3,_⟩:=xcQ GQ.out.here
      obtain ⟨c0,c1,c2,c4,f0,f1,f2,f3⟩:=xcQ GQ.out.res
      generalize W.drewN nq=V at GQ d0 d1 d2 d3 c0 c1 c2 c4 f0 f1 f2 f3 ⊢
      clear x0 x1 x2 y1 y2
      go_wp2
      obtain ⟨q0,q1,q2,q3⟩:=xhQ GQ.out.res (.int .i64 40) (.string ⟨#[]⟩) (.int .i64 0) (.slice (some ⟨g,0,none⟩) (els.length+1) cq)
      obtain ⟨t1,t2⟩:=GQ.out.tree (by decide) (by simp only [List.length_append,List.length_cons,List.length_nil];unfold maxLen;omega)
      exact bodyPost_ret (v:=(A.node 40 ⟨#[]⟩ 0 (some ⟨g,0,none⟩) cq (els++[A.node zk zs zm za zc zkk])).val) (by simp [results,Tryz.results94,go_sem,q0,q1,q2,q3,A.val]) rfl (yGQ _ _ _ _ _ GQ.out.rd hrb GQ.out.step t1 t2 (by omega) (by have:=HL3.out;rw [HJ.out] at this;simp only [A.erase,xvQ,xmQ] at this ⊢;exact this))
end Go.Proofs.YtocbgbkdlfkjjaaGreatDoor
