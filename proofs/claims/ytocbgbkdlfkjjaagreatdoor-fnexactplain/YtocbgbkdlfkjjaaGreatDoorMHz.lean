/- CONTRACT of the specification's reader's list. -/
import Derived.Test.YtocbgbkdlfkjjaaGreatDoorMHy
import Derived.Deep.QuietTactic
import Derived.BigQuiet
import Derived.Deep.RegionLaw
import Derived.Deep.AppendLies
set_option maxRecDepth 100000
set_option maxHeartbeats 8000000
namespace Go.Proofs.YtocbgbkdlfkjjaaGreatDoor
open Go.RowKit
open Pl
def seqM (ws:List W3) (m:Nat→Nat→Res):Nat→List T→Nat→List T × St2
 | 0,acc,i=>(acc,(i,true))
 | g+1,acc,i=>if i<ws.length∧isW ws i ⟨#[125]⟩=false then (match m g i with | .ok x j=>seqM ws m g (acc++[x]) j | .no p=>(acc,(p,true))) else (acc,(i,false))
theorem seq_stop {ws:List W3} {m:Nat→Nat→Res} {g:Nat} {acc:List T} {i:Nat} (h:¬ (i<ws.length∧isW ws i ⟨#[125]⟩=false)):seqM ws m (g+1) acc i=(acc,(i,false)):=by
 simp only [seqM];rw [if_neg h]
theorem seq_go {ws:List W3} {m:Nat→Nat→Res} {g:Nat} {acc:List T} {i:Nat} (h:i<ws.length∧isW ws i ⟨#[125]⟩=false):seqM ws m (g+1) acc i=(match m g i with | .ok x j=>seqM ws m g (acc++[x]) j | .no p=>(acc,(p,true))):=by
 simp only [seqM];rw [if_pos h]
def badOf (rb:Nat) (w:World):Nat:=match w.cell? ⟨rb,2,none⟩ with
 | some (.bool true)=>0
 | _=>1
theorem Sd.bad0 {w:World} {rb:Nat} {a:Option Addr} {cap:Nat} {ws:List W3} {i:Nat} {b:Bool} (h:Sd w rb a cap ws (i,b)):badOf rb w=if b then 0 else 1:=by
 unfold badOf
 rw [h.cells.2.2.1]
 cases b <;> rfl
def LPost (rb:Nat) (a:Option Addr) (cap:Nat) (ws:List W3) (w:World) (R:List T × St2) (st:St2) (e:Ending) (w':World):Prop :=
 ∃ (x:A) (st':St2),e=.returned x.val∧Sits w' x∧New w.heap.size x∧Sd w' rb a cap ws st'∧Step rb w w'∧(st.2=true→st'=st)∧(st.2=false→st'=R.2∧(R.2.2=false→x.erase=.node 30 nil_ 0 R.1))
def LInv (ws:List W3) (m:Nat→Nat→Res) (f:Nat) (R:List T × St2) (st:St2) (els:List T) (st':St2):Prop :=
 (st.2=true∧st'=st)∨(st.2=false∧((st'.2=true∧R.2=st')∨(st'.2=false∧∃ g,g≤f∧3 * (ws.length - st'.1)+2≤g∧seqM ws m g els st'.1=R)))
theorem linv_end {ws:List W3} {m:Nat→Nat→Res} {f:Nat} {R:List T × St2} {st:St2} {els:List T} {st':St2} (h:LInv ws m f R st els st') (hs:st'.2=false→¬ (st'.1<ws.length∧isW ws st'.1 ⟨#[125]⟩=false)) :
    (st.2=true→st'=st)∧(st.2=false→st'=R.2∧(R.2.2=false→T.node 30 nil_ 0 els=.node 30 nil_ 0 R.1)):=by
 rcases h with ⟨h1,h2⟩ | ⟨h1,⟨h2,h3⟩ | ⟨h2,g,_,h3,h4⟩⟩
 ·exact ⟨fun _=>h2,fun h=>(by rw [h1] at h;cases h)⟩
 ·exact ⟨fun h=>(by rw [h1] at h;cases h),fun _=>⟨h3.symm,fun q=>(by rw [h3,h2] at q;cases q)⟩⟩
 ·obtain ⟨g1,rfl⟩:∃ g1,g=g1+1:=⟨g - 1,by omega⟩
  rw [seq_stop (hs h2)] at h4
  refine ⟨fun h=>(by rw [h1] at h;cases h),fun _=>⟨?_,fun _=>(by rw [← h4])⟩⟩
  rw [← h4]
  obtain ⟨j,c⟩:=st'
  simp only at h2
  rw [h2]
theorem slist_any {rb:Nat} {a:Option Addr} {cap:Nat} {ws:List W3} (hfew:ws.length≤1500) (m:Nat→Nat→Res) (f:Nat) (hS:∀ g j w,3 * (ws.length - j)+1≤g→g≤f→Sd w rb a cap ws (j,false)→Calls Tryz.prog 149 #[.pointer (some ⟨rb,0,none⟩)] w (zcQ rb a cap ws w (m g j) (j,false)))
    (ha:∀ g j t k,m g j=.ok t k→j<k∧k≤ws.length) (hn:∀ g j p,m g j=.no p→j≤p) (st:St2) (hf:st.2=false→3 * (ws.length - st.1)+2≤f) (w:World) (h:Sd w rb a cap ws st) :
    Calls Tryz.prog 128 #[.pointer (some ⟨rb,0,none⟩)] w (LPost rb a cap ws w (seqM ws m f [] st.1) st):=by
 have HA:=xaQ h
 have hrb:=h.lt
 have HST:=xaQ hS
 have HAD:=xaQ ha
 have HNO:=xaQ hn
 generalize hR:seqM ws m f [] st.1=R
 have HI0:Hid (LInv ws m f R st [] st):=by
  show LInv _ _ _ _ _ _ _
  cases hb:st.2 with
  | true=>exact .inl ⟨hb,rfl⟩
  | false=>exact .inr ⟨hb,.inr ⟨hb,f,Nat.le_refl _,hf hb,hR⟩⟩
 have hfn:Hid (f=f):=rfl
 clear hR h hS ha hn hf
 obtain ⟨i0,hi0,hz0⟩:=Option.map_eq_some_iff.1 Tryz.info31
 simp only [Prod.mk.injEq] at hz0
 obtain ⟨hz1,hz2,hz3⟩:=hz0
 have HI:=xaQ (show Tryz.prog.info? 31=some i0∧i0.zero=some (.agg #[.int .i64 0,.string ByteArray.empty,.int .i64 0,.slice none 0 0])∧i0.size=4∧i0.bytes=56 from ⟨hi0,hz1,hz2,hz3⟩)
 clear hi0 hz1 hz2 hz3 hfn
 have hG:=SStem.start (w:=w) (heap_alloc_new w _) (HA.out.alloc _) ((Step.refl rb w).alloc _) hrb 30 ⟨#[]⟩
 have e0:(w.alloc (.cells #[.int .i64 0,.string ⟨#[]⟩,.int .i64 0,.slice none 0 0] 31)).heap.size=w.heap.size+1:=by simp
 rw [e0] at hG
 have HG:=xaQ hG
 clear hG e0
 go_enter Tryz.func128,Tryz.ntmps128
 go_wp2
 go_loopw [] (fun w'=>∃ (els:List A) (sa:Option Addr) (sc:Nat) (st':St2),SStem rb a cap ws w (w.heap.size+1) 30 ⟨#[]⟩ w' els sa sc st'∧LInv ws m f R st (xmQ els) st'∧els.length≤1501∧(st'.2=false→els.length≤st'.1)) (fun w'=>2 * (ws.length - posOf rb w')+badOf rb w')
 case atStart=>exact ⟨[],none,0,st,HG.out,HI0.out,Nat.zero_le _,fun _=>Nat.zero_le _⟩
 case round =>
  obtain ⟨els,sa,sc,st2,hG,hI,hle,hle2⟩:=hrel
  have G0:=xaQ hG
  have I0:=xaQ hI
  have HPo:=xaQ hG.rd.pos
  obtain ⟨x0,x1,x2,_⟩:=hG.rd.cells
  obtain ⟨j,c⟩:=st2
  have HB0:=xaQ hG.rd.bad0
  simp only at x1 x2 hle hle2
  clear hG hI HG HI0
  by_cases hc:c=true
  ·subst hc
   have HE:=xaQ (linv_end I0.out (fun h=>(by simp at h)))
   clear I0
   go_wp2
   go_quiet (fail)
   have G2:=xaQ (G0.out.on ((Step.refl rb wr).drewN nq) (G0.out.rd.drewN nq))
   obtain ⟨d0,d1,d2,d3,_⟩:=xcQ G2.out.here
   obtain ⟨c0,c1,c2,c3,f0,f1,f2,f3⟩:=xcQ G2.out.res
   generalize wr.drewN nq=W at G2 d0 d1 d2 d3 c0 c1 c2 c3 f0 f1 f2 f3 ⊢
   go_wp2
   obtain ⟨q0,q1,q2,q3⟩:=xhQ G2.out.res (.int .i64 30) (.string ⟨#[]⟩) (.int .i64 0) (.slice sa els.length sc)
   obtain ⟨t1,t2⟩:=G2.out.tree (by decide) (by unfold maxLen;omega)
   refine bodyPost_ret (v:=(A.node 30 ⟨#[]⟩ 0 sa sc els).val) (by simp [results,Tryz.results128,go_sem,q0,q1,q2,q3,A.val]) rfl ?_
   exact ⟨_,_,rfl,Sits.stay _ (fun q hq=>xLQ _ _ _ _ (by have:=t2.2 q hq;omega)) t1,t2.mono (by omega),zvQ G2.out.rd hrb _ _ _ _,yzQ G2.out.step (Nat.le_refl _) _ _ _ _,HE.out.1,fun hb=>⟨(HE.out.2 hb).1,fun hq=>by simp only [A.erase];exact (HE.out.2 hb).2 hq⟩⟩
  ·have hc2:c=false:=by simpa using hc
   subst hc2
   clear hc
   have hlj:=hle2 rfl
   by_cases hlt:j<ws.length
   ·have hl:decide ((j:Int)<(ws.length:Int))=true:=by simp;omega
    by_cases hb:isW ws j ⟨#[125]⟩=true
    ·have hne:((xPQ ws j).toList == [125])=true:=by rw [str_is,isW_text hb];decide
     have HW:=xaQ hb
     have HE:=xaQ (linv_end I0.out (fun _ h=>(by rw [HW.out] at h;cases h.2)))
     clear I0
     go_wp2
     go_quiet ((go_at_call 127;exact Calls.quiet_of (sText_any rb a cap ws (j,false) _ (G0.out.rd.drewN _))))
     have G2:=xaQ (G0.out.on ((Step.refl rb wr).drewN nq) (G0.out.rd.drewN nq))
     obtain ⟨d0,d1,d2,d3,_⟩:=xcQ G2.out.here
     obtain ⟨c0,c1,c2,c3,f0,f1,f2,f3⟩:=xcQ G2.out.res
     generalize wr.drewN nq=W at G2 d0 d1 d2 d3 c0 c1 c2 c3 f0 f1 f2 f3 ⊢
     go_wp2
     obtain ⟨q0,q1,q2,q3⟩:=xhQ G2.out.res (.int .i64 30) (.string ⟨#[]⟩) (.int .i64 0) (.slice sa els.length sc)
     obtain ⟨t1,t2⟩:=G2.out.tree (by decide) (by unfold maxLen;omega)
     refine bodyPost_ret (v:=(A.node 30 ⟨#[]⟩ 0 sa sc els).val) (by simp [results,Tryz.results128,go_sem,q0,q1,q2,q3,A.val]) rfl ?_
     exact ⟨_,_,rfl,Sits.stay _ (fun q hq=>xLQ _ _ _ _ (by have:=t2.2 q hq;omega)) t1,t2.mono (by omega),zvQ G2.out.rd hrb _ _ _ _,yzQ G2.out.step (Nat.le_refl _) _ _ _ _,HE.out.1,fun hb=>⟨(HE.out.2 hb).1,fun hq=>by simp only [A.erase];exact (HE.out.2 hb).2 hq⟩⟩
    ·simp only [Bool.not_eq_true] at hb
     have hne:((xPQ ws j).toList == [125])=false:=by
      rw [str_is]
      have:xPQ ws j≠⟨#[125]⟩:=fun e=>by rw [isW_of_text hlt] at hb;simp [e] at hb
      simpa using this
     obtain ⟨hsb,g,hgf,hgl,hm⟩:st.2=false∧∃ g,g≤f∧3 * (ws.length - j)+2≤g∧seqM ws m g (xmQ els) j=R:=by
      rcases I0.out with ⟨h1,h2⟩ | ⟨h1,⟨h2,_⟩ | ⟨_,g,h3,h4,h5⟩⟩
      ·rw [← h2] at h1;cases h1
      ·cases h2
      ·exact ⟨h1,g,h3,h4,h5⟩
     obtain ⟨g1,rfl⟩:∃ g1,g=g1+1:=⟨g - 1,by omega⟩
     rw [seq_go ⟨hlt,hb⟩] at hm
     have H1:=xaQ (fun w h=>HST.out g1 j w (by omega) (by omega) h)
     have HS:=xaQ (fun (y:T) (st3:St2) (h:SR (m g1 j) (j,false) y st3)=>show LInv ws m f R st (xmQ els++[y]) st3∧(j≤st3.1∧(st3.2=false→j<st3.1∧st3.1≤ws.length)) from by
      have e1:=HAD.out g1 j
      have e2:=HNO.out g1 j
      generalize m g1 j=r at h hm e1 e2
      cases r with
      | no p=>rw [h.no];exact ⟨.inr ⟨hsb,.inl ⟨rfl,by rw [← hm]⟩⟩,e2 p rfl,fun q=>by cases q⟩
      | ok t k =>
        have:=e1 t k rfl
        rw [h.ok.1,h.ok.2]
        exact ⟨.inr ⟨hsb,.inr ⟨rfl,g1,by omega,by simp only;omega,hm⟩⟩,by simp only;omega,fun _=>by simp only;omega⟩)
     clear hm I0 hb hgl
     go_wp2
     go_quiet ((go_at_call 127;exact Calls.quiet_of (sText_any rb a cap ws (j,false) _ (G0.out.rd.drewN _))))
     have G2:=xaQ (G0.out.on ((Step.refl rb wr).drewN nq) (G0.out.rd.drewN nq))
     obtain ⟨d0,d1,d2,d3,e0,e1,e2,e3⟩:=xcQ G2.out.here
     have hp2:=G2.out.plt
     generalize wr.drewN nq=W at G2 d0 d1 d2 d3 e0 e1 e2 e3 hp2 ⊢
     clear x0 x1 x2 hne hl
     go_wp2
     go_region_law (first | (go_simp;go_at_call 149;refine (H1.out _ G2.out.rd.drew).mono ?_;rintro e w3 ⟨z,st3,rfl,hsz,hnz,r3,s3,hz3⟩;obtain ⟨zk,zs,zm,za,zc,zkk⟩:=z;simp only [A.val];have T3:=G2.out.drew.on s3 r3;obtain ⟨b0,b1,b2,b3,g0,g1,g2,g3⟩:=xcQ T3.here;have hp3:=T3.plt;have OW:=xaQ (T3.own.alloc (.cells #[.int .i64 zk,.string zs,.int .i64 zm,.slice za zkk.length zc] 31));have HT3:=xaQ T3;have HS3:=xaQ s3;have HZ:=xaQ hz3;have HSZ:=xaQ hsz;have HNZ:=xaQ hnz;have HR3:=xaQ r3;clear T3 s3 hz3 hsz hnz r3) | (refine step_append_lies _ (by rfl) _ _ _ (by rfl) ((w.heap.size+1)+1) 31 i0 _ 4 56 Tryz.underlying29 HI.out.1 HI.out.2.1 HI.out.2.2.1 HI.out.2.2.2 rfl (by decide) _ _ _ (by rfl) OW.out ⟨w3.heap.size,0,none⟩ 1 1 [.int .i64 zk,.string zs,.int .i64 zm,.slice za zkk.length zc] (by rfl) (by rfl) (World.news_of_block (heap_alloc_new w3 _)) (fun u hu=>by simp at hu;rcases hu with rfl | rfl | rfl | rfl <;> rfl) (by decide) (by unfold maxLen;omega) (by omega) (by simp;omega) (w3.heap.size+1) (by simp) ?_;intro g cq w4 hown hgrow hat hlt4;have GP:=xaQ (SStem.push (x:=.node zk zs zm za zc zkk) G2.out.drew HS3.out HR3.out HSZ.out HNZ.out _ hown hgrow hat);have K4:=(hgrow.block (w.heap.size+1) (by simp;omega) (fun e=>absurd (OW.out.lt _ e.symm).1 (Nat.not_succ_le_self _))).trans ((Lib.alloc_old w3 _ _ hp3).trans HT3.out.here);clear b0 b1 b2 b3 g0 g1 g2 g3;obtain ⟨l0,l1,l2,l3,m0,m1,m2,m3⟩:=xcQ K4;clear K4 hown hgrow hat OW HS3 HSZ HNZ HR3))
     all_goals
         have HL:=xaQ (HS.out _ _ HZ.out)
         go_wp2
         go_roundw
         case rel=>exact ⟨_,_,_,_,GP.out,by rw [xvQ];simp only [xmQ];exact HL.out.1,by simp;omega,fun hq=>by have:=HL.out.2.2 hq;simp;omega⟩
         case measure =>
          rw [HPo.out,HB0.out]
          have h1:=GP.out.rd.pos
          have h2:=HL.out.2
          obtain ⟨j3,c3⟩:=st3
          have h3:=GP.out.rd.bad0
          refine Nat.lt_of_le_of_lt (Nat.le_of_eq (congrArg (fun q=>2 * (ws.length - q)+_) h1)) ?_
          refine Nat.lt_of_le_of_lt (Nat.le_of_eq (congrArg (fun q=>2 * (ws.length - _)+q) h3)) ?_
          simp only at h2 ⊢
          cases c3 with
          | true=>simp;omega
          | false=>have:=h2.2 rfl;simp;omega
   ·have hl:decide ((j:Int)<(ws.length:Int))=false:=by simp;omega
    have HE:=xaQ (linv_end I0.out (fun _ h=>(by omega)))
    clear I0
    go_wp2
    go_quiet (fail)
    have G2:=xaQ (G0.out.on ((Step.refl rb wr).drewN nq) (G0.out.rd.drewN nq))
    obtain ⟨d0,d1,d2,d3,_⟩:=xcQ G2.out.here
    obtain ⟨c0,c1,c2,c3,f0,f1,f2,f3⟩:=xcQ G2.out.res
    generalize wr.drewN nq=W at G2 d0 d1 d2 d3 c0 c1 c2 c3 f0 f1 f2 f3 ⊢
    go_wp2
    obtain ⟨q0,q1,q2,q3⟩:=xhQ G2.out.res (.int .i64 30) (.string ⟨#[]⟩) (.int .i64 0) (.slice sa els.length sc)
    obtain ⟨t1,t2⟩:=G2.out.tree (by decide) (by unfold maxLen;omega)
    refine bodyPost_ret (v:=(A.node 30 ⟨#[]⟩ 0 sa sc els).val) (by simp [results,Tryz.results128,go_sem,q0,q1,q2,q3,A.val]) rfl ?_
    exact ⟨_,_,rfl,Sits.stay _ (fun q hq=>xLQ _ _ _ _ (by have:=t2.2 q hq;omega)) t1,t2.mono (by omega),zvQ G2.out.rd hrb _ _ _ _,yzQ G2.out.step (Nat.le_refl _) _ _ _ _,HE.out.1,fun hb=>⟨(HE.out.2 hb).1,fun hq=>by simp only [A.erase];exact (HE.out.2 hb).2 hq⟩⟩
theorem short_end {ws:List W3} {F i:Nat} (h:ws.length≤i):ybQ ws F i=.no i:=by
 unfold ybQ yQQ
 simp only [isW_end _ h,kindW_end h]
 simp
theorem stmt_end {ws:List W3} {F g i:Nat} (h:ws.length≤i):xFQ ws F (g+1) i=.no i:=by
 simp only [xFQ,isW_end _ h,short_end h]
 simp [Res.then_]
theorem seq_list {ws:List W3} {F:Nat} (g:Nat):∀ (acc:List T) (i:Nat),3 * (ws.length - i)+2≤g →
    mList ws F g acc i=if (seqM ws (xFQ ws F) g acc i).2.2=true then .no (seqM ws (xFQ ws F) g acc i).2.1 else
     if isW ws (seqM ws (xFQ ws F) g acc i).2.1 ⟨#[125]⟩ then .ok (.node 30 nil_ 0 (seqM ws (xFQ ws F) g acc i).1) ((seqM ws (xFQ ws F) g acc i).2.1+1) else .no (seqM ws (xFQ ws F) g acc i).2.1:=by
 induction g with
 | zero=>intro acc i h;omega
 | succ g ih =>
   intro acc i h
   by_cases hb:isW ws i ⟨#[125]⟩=true
   ·rw [seq_stop (fun q=>by rw [hb] at q;cases q.2)]
    simp only [mList]
    rw [if_pos hb,if_neg (by decide),if_pos hb]
   ·have hb':isW ws i ⟨#[125]⟩=false:=by simpa using hb
    by_cases hl:i<ws.length
    ·rw [seq_go ⟨hl,hb'⟩]
     simp only [mList]
     rw [if_neg hb]
     have ha:=(advS ws F g).1 i
     generalize xFQ ws F g i=r at ha ⊢
     cases r with
     | no p=>simp [Res.then_]
     | ok t j =>
       have:=ha t j rfl
       simp only [Res.then_]
       exact ih _ _ (by omega)
    ·rw [seq_stop (fun q=>hl q.1)]
     simp only [mList]
     rw [if_neg hb,if_neg (by decide),if_neg hb]
     obtain ⟨g1,rfl⟩:∃ g1,g=g1+1:=⟨g - 1,by omega⟩
     rw [stmt_end (by omega)]
     rfl
theorem sr_block {ws:List W3} {F f i:Nat} {x:T} {st1:St2} (hf:3 * (ws.length - i)+2≤f+1)
    (h:(nd ws (i,false) ⟨#[123]⟩).2=true→st1=nd ws (i,false) ⟨#[123]⟩)
    (h2:(nd ws (i,false) ⟨#[123]⟩).2=false→st1=(seqM ws (xFQ ws F) f [] (nd ws (i,false) ⟨#[123]⟩).1).2∧((seqM ws (xFQ ws F) f [] (nd ws (i,false) ⟨#[123]⟩).1).2.2=false→x=.node 30 nil_ 0 (seqM ws (xFQ ws F) f [] (nd ws (i,false) ⟨#[123]⟩).1).1)) :
    SR (ysQ ws F (f+1) i) (i,false) x (nd ws st1 ⟨#[125]⟩):=by
 simp only [ysQ,want]
 rw [ymQ] at h h2
 by_cases hw:isW ws i ⟨#[123]⟩=true
 ·have hl:=yCQ hw
  rw [if_pos hw] at h h2 ⊢
  simp only at h2
  obtain ⟨e1,e2⟩:=h2 trivial
  rw [seq_list f [] (i+1) (by omega)]
  generalize seqM ws (xFQ ws F) f [] (i+1)=R at e1 e2 ⊢
  obtain ⟨els,j,c⟩:=R
  simp only at e1 e2 ⊢
  subst e1
  cases c with
  | true=>rw [yaQ,if_pos rfl];exact SR.mk_no _ _ _
  | false =>
    rw [ymQ,if_neg (by decide),e2 rfl]
    split
    ·exact SR.mk_ok _ _ _
    ·exact SR.mk_no _ _ _
 ·rw [if_neg hw] at h h2 ⊢
  rw [h rfl,yaQ];exact SR.mk_no _ _ _
def SStmt (rb:Nat) (a:Option Addr) (cap:Nat) (ws:List W3) (F f:Nat):Prop:=∀ (st:St2) (w:World),3 * (ws.length - st.1)+1≤f→Sd w rb a cap ws st→Calls Tryz.prog 149 #[.pointer (some ⟨rb,0,none⟩)] w (zcQ rb a cap ws w (xFQ ws F f st.1) st)
def SBlock (rb:Nat) (a:Option Addr) (cap:Nat) (ws:List W3) (F f:Nat):Prop:=∀ (st:St2) (w:World),3 * (ws.length - st.1)+2≤f→Sd w rb a cap ws st→Calls Tryz.prog 159 #[.pointer (some ⟨rb,0,none⟩)] w (zcQ rb a cap ws w (ysQ ws F f st.1) st)
theorem sblock_step {rb:Nat} {a:Option Addr} {cap:Nat} {ws:List W3} {F f:Nat} (hfew:ws.length≤1500) (hS:∀ g,g≤f→SStmt rb a cap ws F g):SBlock rb a cap ws F (f+1):=by
 rintro ⟨i,b⟩ w hf h
 simp only at hf
 have C0:=xaQ (fun w h=>xQQ rb a cap ws (i,b) ⟨#[123]⟩ (by decide) w h)
 have hnf:(nd ws (i,b) ⟨#[123]⟩).2=false→3 * (ws.length - (nd ws (i,b) ⟨#[123]⟩).1)+2≤f:=by
  cases b with
  | true=>rw [yaQ];intro q;cases q
  | false =>
   rw [ymQ]
   split
   ·rename_i hw;have:=yCQ hw;intro _;simp only;omega
   ·intro q;cases q
 have hL:=fun w h=>slist_any (rb:=rb) (a:=a) (cap:=cap) hfew (xFQ ws F) f (fun g j w hg hgf hd=>hS g hgf (j,false) w hg hd) (fun g j t k e=>(advS ws F g).1 j t k e) (fun g j p e=>(advNS ws F g).1 j p e) (nd ws (i,b) ⟨#[123]⟩) hnf w h
 have HSR:Hid (∀ (x:T) (st1:St2),((nd ws (i,b) ⟨#[123]⟩).2=true→st1=nd ws (i,b) ⟨#[123]⟩)→((nd ws (i,b) ⟨#[123]⟩).2=false→st1=(seqM ws (xFQ ws F) f [] (nd ws (i,b) ⟨#[123]⟩).1).2∧((seqM ws (xFQ ws F) f [] (nd ws (i,b) ⟨#[123]⟩).1).2.2=false→x=.node 30 nil_ 0 (seqM ws (xFQ ws F) f [] (nd ws (i,b) ⟨#[123]⟩).1).1))→SR (ysQ ws F (f+1) i) (i,b) x (nd ws st1 ⟨#[125]⟩)):=fun x st1 h1 h2=>by
  cases b with
  | true=>rw [yaQ] at h1;rw [h1 rfl,yaQ];exact SR.mk_bad _ _ _
  | false=>exact sr_block hf h1 h2
 have HA:=xaQ h
 have hrb:=h.lt
 generalize seqM ws (xFQ ws F) f [] (nd ws (i,b) ⟨#[123]⟩).1=R at hL HSR
 generalize nd ws (i,b) ⟨#[123]⟩=st0 at hL HSR C0
 have HL:=xaQ hL
 have C2:=xaQ (fun st1 w h=>xQQ rb a cap ws st1 ⟨#[125]⟩ (by decide) w h)
 clear h hnf hL hS
 show Calls _ _ _ _ (zcQ rb a cap ws w (ysQ ws F (f+1) i) (i,b))
 generalize ysQ ws F (f+1) i=M at HSR ⊢
 go_enter Tryz.func159,Tryz.ntmps159
 go_wp2_with fail
 refine (C0.out _ (HA.out.alloc _)).mono ?_
 rintro e w1 ⟨rfl,r,s⟩
 have R1:=xaQ r
 have S1:=xaQ (((Step.refl rb w).alloc _).trans s)
 have P1:=xaQ (s.at (heap_alloc_new w _) (by omega))
 clear r s
 go_wp2_with fail
 refine (HL.out _ R1.out).mono ?_
 rintro e w2 ⟨x,st1,rfl,hsx,hnx,r,s,h1,h2⟩
 have R2:=xaQ r
 have S2:=xaQ (S1.out.trans s)
 have P2:=xaQ (s.at P1.out (by omega))
 have z1:w.heap.size<w1.heap.size:=(Array.getElem?_eq_some_iff.1 P1.out).1
 have z2:w.heap.size<w2.heap.size:=(Array.getElem?_eq_some_iff.1 P2.out).1
 have HX:=xaQ (HSR.out x.erase st1 h1 h2)
 have hsx':=((Step.refl rb w2).alloc (.cells x.cells.toArray 31)).sits hsx (fun q hq=>by have:=hnx.2 q hq;have:=R1.out.lt;omega)
 obtain ⟨xk,xs,xm,xa,xc,xkk⟩:=x
 simp only [A.cells] at hsx'
 have HS:=xaQ hsx'
 have HN:=xaQ hnx
 clear hsx' hsx hnx r s h1 h2 HSR
 simp only [A.val]
 go_wp2_with fail
 refine (C2.out st1 _ (R2.out.alloc _)).mono ?_
 rintro e w3 ⟨rfl,r,s⟩
 have P3:=xaQ (s.at ((Lib.alloc_old w2 _ _ z2).trans P2.out) (by omega))
 have L3:=s.at (heap_alloc_new w2 _) (by have:=R2.out.lt;omega)
 have HS3:=xaQ (s.sits HS.out (fun q hq=>by have:=HN.out.2 q hq;have:=R1.out.lt;omega))
 have S3:=xaQ ((S2.out.alloc _).trans s)
 have R3:=xaQ r
 clear r s
 obtain ⟨d0,d1,d2,d3,_⟩:=xcQ L3
 obtain ⟨c0,c1,c2,c3,f0,f1,f2,f3⟩:=xcQ P3.out
 clear L3
 go_wp2
 obtain ⟨q0,q1,q2,q3⟩:=xhQ P3.out (.int .i64 xk) (.string xs) (.int .i64 xm) (.slice xa xkk.length xc)
 exact bodyPost_ret (v:=(A.node xk xs xm xa xc xkk).val) (by simp [results,Tryz.results159,go_sem,q0,q1,q2,q3,A.val]) rfl (yGQ _ _ _ _ _ R3.out hrb S3.out HS3.out HN.out z1 HX.out)
theorem SR.parts {r:Res} {i:Nat} {t:T} {st':St2} (h:SR r (i,false) t st'):(∃ j,r=.ok t j∧st'=(j,false))∨(∃ p,r=.no p∧st'=(p,true)):=by
 cases r with
 | no p=>exact .inr ⟨p,rfl,h.no⟩
 | ok t' j=>exact .inl ⟨j,by rw [h.ok.1],h.ok.2⟩
theorem sr_while {ws:List W3} {F f i:Nat} {x y:T} {st1 st2:St2} (h1:isW ws i ⟨#[119,104,105,108,101]⟩=true) (h:SR (zPQ ws F (i+1)) (i+1,false) x st1) (h2:SR (ysQ ws F f st1.1) st1 y st2):SR (xFQ ws F (f+1) i) (i,false) (.node 25 nil_ 0 [x,y]) st2:=by
 simp only [xFQ]
 rw [if_neg (by rw [xSQ h1 (by decide)];decide),if_pos h1]
 rcases h.parts with ⟨j,e,rfl⟩ | ⟨p,e,rfl⟩
 ·rw [e]
  rcases h2.parts with ⟨k,e2,rfl⟩ | ⟨p,e2,rfl⟩
  ·simp only [Res.then_];rw [e2];exact SR.mk_ok _ _ _
  ·simp only [Res.then_];rw [e2];exact SR.mk_no _ _ _
 ·rw [e,h2.bad];exact SR.mk_no _ _ _
theorem sr_else {ws:List W3} {F f i:Nat} {x y z:T} {st1 st2 st3:St2} (h1:isW ws i ⟨#[105,102]⟩=true) (h:SR (zPQ ws F (i+1)) (i+1,false) x st1) (h2:SR (ysQ ws F f st1.1) st1 y st2) (ht:tk ws st2 ⟨#[101,108,115,101]⟩=true)
    (h3:SR (ysQ ws F f (st2.1+1)) (st2.1+1,false) z st3):SR (xFQ ws F (f+1) i) (i,false) (.node 24 nil_ 0 [x,y,z]) st3:=by
 simp only [xFQ]
 rw [if_pos h1]
 obtain ⟨b2,w2⟩:=tk_yes ht
 rcases h.parts with ⟨j,e,rfl⟩ | ⟨p,e,rfl⟩
 ·rw [e]
  rcases h2.parts with ⟨k,e2,rfl⟩ | ⟨p,e2,rfl⟩
  ·simp only [Res.then_];rw [e2]
   simp only at w2 h3 ⊢
   rw [if_pos w2]
   rcases h3.parts with ⟨l,e3,rfl⟩ | ⟨p,e3,rfl⟩
   ·rw [e3];exact SR.mk_ok _ _ _
   ·rw [e3];exact SR.mk_no _ _ _
  ·cases b2
 ·rw [h2.bad] at b2;cases b2
theorem sr_noelse {ws:List W3} {F f i:Nat} {x y:T} {st1 st2:St2} (h1:isW ws i ⟨#[105,102]⟩=true) (h:SR (zPQ ws F (i+1)) (i+1,false) x st1) (h2:SR (ysQ ws F f st1.1) st1 y st2) (ht:tk ws st2 ⟨#[101,108,115,101]⟩=false) :
    SR (xFQ ws F (f+1) i) (i,false) (.node 24 nil_ 0 [x,y,.node 30 nil_ 0 []]) st2:=by
 simp only [xFQ]
 rw [if_pos h1]
 rcases h.parts with ⟨j,e,rfl⟩ | ⟨p,e,rfl⟩
 ·rw [e]
  rcases h2.parts with ⟨k,e2,rfl⟩ | ⟨p,e2,rfl⟩
  ·simp only [Res.then_];rw [e2]
   rw [xoQ] at ht
   simp only
   rw [if_neg (by rw [ht];decide)]
   exact SR.mk_ok _ _ _
  ·simp only [Res.then_];rw [e2];exact SR.mk_no _ _ _
 ·rw [e,h2.bad];exact SR.mk_no _ _ _
theorem stmt_short_eq {ws:List W3} {F f i:Nat} (n0:isW ws i ⟨#[105,102]⟩=false) (n1:isW ws i ⟨#[119,104,105,108,101]⟩=false) (n2:isW ws i ⟨#[102,111,114]⟩=false) :
    xFQ ws F (f+1) i=(ybQ ws F i).then_ fun x j=>want ws j ⟨#[59]⟩ (.ok x (j+1)):=by
 simp only [xFQ]
 rw [if_neg (by rw [n0];decide),if_neg (by rw [n1];decide),if_neg (by rw [n2];decide)]
theorem sr_semi {ws:List W3} {F f i:Nat} {x:T} {st1:St2} (n0:isW ws i ⟨#[105,102]⟩=false) (n1:isW ws i ⟨#[119,104,105,108,101]⟩=false) (n2:isW ws i ⟨#[102,111,114]⟩=false) (h:SR (ybQ ws F i) (i,false) x st1) :
    SR (xFQ ws F (f+1) i) (i,false) x (nd ws st1 ⟨#[59]⟩):=by
 rw [stmt_short_eq n0 n1 n2]
 rcases h.parts with ⟨j,e,rfl⟩ | ⟨p,e,rfl⟩
 ·rw [e,ymQ]
  simp only [Res.then_,want]
  split
  ·exact SR.mk_ok _ _ _
  ·exact SR.mk_no _ _ _
 ·rw [e,yaQ];exact SR.mk_no _ _ _
theorem zeQ {ws:List W3} {i:Nat} (h:xTQ ws i=1):nmS ws (i,false)=(i+1,false)∧nmT ws (i,false)=xPQ ws i:=by simp [nmS,nmT,nmB,h]
theorem nm_none {ws:List W3} {i:Nat} (h:xTQ ws i≠1):nmS ws (i,false)=(i,true):=by simp [nmS,nmB,h]
theorem sr_for {ws:List W3} {F f i:Nat} {x y z:T} {st2 st4 st5:St2} (h1:isW ws i ⟨#[102,111,114]⟩=true)
    (h:SR (x0Q ws F (nd ws (nmS ws (i+1,false)) ⟨#[102,114,111,109]⟩).1) (nd ws (nmS ws (i+1,false)) ⟨#[102,114,111,109]⟩) x st2)
    (h2:SR (x0Q ws F (nd ws st2 ⟨#[116,111]⟩).1) (nd ws st2 ⟨#[116,111]⟩) y st4) (h3:SR (ysQ ws F f st4.1) st4 z st5) :
    SR (xFQ ws F (f+1) i) (i,false) (.node 26 (nmT ws (i+1,false)) 0 [x,y,z]) st5:=by
 simp only [xFQ]
 rw [if_neg (by rw [xSQ h1 (by decide)];decide),if_neg (by rw [xSQ h1 (by decide)];decide),if_pos h1]
 simp only [yQQ,want]
 have bad:∀ p,st2=(p,true)→st5=(p,true):=fun p e=>by
  subst e
  rw [yaQ] at h2
  have e4:=h2.bad
  subst e4
  exact h3.bad
 by_cases k1:xTQ ws (i+1)=1
 ·obtain ⟨e1,e2⟩:=zeQ k1
  rw [e1,ymQ] at h
  rw [if_pos k1,e2]
  by_cases k2:isW ws (i+1+1) ⟨#[102,114,111,109]⟩=true
  ·rw [if_pos k2] at h
   have k2':isW ws (i+2) ⟨#[102,114,111,109]⟩=true:=k2
   rw [if_pos k2']
   rcases h.parts with ⟨j,e,rfl⟩ | ⟨p,e,rfl⟩
   ·have e':x0Q ws F (i+3)=.ok x j:=e
    rw [e']
    rw [ymQ] at h2
    simp only [Res.then_]
    by_cases k3:isW ws j ⟨#[116,111]⟩=true
    ·rw [if_pos k3] at h2 ⊢
     rcases h2.parts with ⟨k,e3,rfl⟩ | ⟨p,e3,rfl⟩
     ·have e3':x0Q ws F (j+1)=.ok y k:=e3
      rw [e3']
      rcases h3.parts with ⟨l,e4,rfl⟩ | ⟨p,e4,rfl⟩
      ·simp only;rw [e4];exact SR.mk_ok _ _ _
      ·simp only;rw [e4];exact SR.mk_no _ _ _
     ·have e3':x0Q ws F (j+1)=.no p:=e3
      rw [e3',h3.bad];exact SR.mk_no _ _ _
    ·rw [if_neg k3] at h2 ⊢
     have e4:=h2.bad
     subst e4
     rw [h3.bad];exact SR.mk_no _ _ _
   ·have e':x0Q ws F (i+3)=.no p:=e
    rw [e',bad p rfl];exact SR.mk_no _ _ _
  ·rw [if_neg k2] at h
   have k2':¬ isW ws (i+2) ⟨#[102,114,111,109]⟩=true:=k2
   rw [if_neg k2',bad _ h.bad];exact SR.mk_no _ _ _
 ·rw [nm_none k1,yaQ] at h
  rw [if_neg k1,bad _ h.bad];exact SR.mk_no _ _ _
end Go.Proofs.YtocbgbkdlfkjjaaGreatDoor
