/- CONTRACT of the specification's reader's expr. -/
import Derived.Test.YtocbgbkdlfkjjaaGreatDoorMHx
set_option maxRecDepth 100000
set_option maxHeartbeats 4000000
namespace Go.Proofs.YtocbgbkdlfkjjaaGreatDoor
open Go.RowKit
open Pl
theorem sexpr_step {rb:Nat} {a:Option Addr} {cap:Nat} {ws:List W3} {f:Nat} (hO:∀ g,g≤f→STerm rb a cap ws g):SExpr rb a cap ws (f+1):=by
 intro st w hf h
 obtain ⟨i,b⟩:=st
 simp only at hf
 generalize hR:x0Q ws (f+1) i=R
 have hR':R=(zgQ ws f i).then_ fun x j=>yjQ ws f x j:=by rw [← hR];simp only [x0Q]
 have H1:=xaQ (fun w h=>hO f (Nat.le_refl _) (i,b) w (by simp only;omega) h)
 have HT:=xaQ (fun (x:T) (st':St2) (h:SR (zgQ ws f i) (i,b) x st')=>tinv_first (ws:=ws) (f:=f) (m:=yjQ ws) (x:=x) (st':=st') hR' h (fun t j e=>(adv ws f).2.1 i t j e) (by omega))
 have HO:=xaQ hO
 have HA:=xaQ h
 have hrb:=h.lt
 clear hO h hR hR'
 show Calls _ _ _ _ (zcQ rb a cap ws w R (i,b))
 go_enter Tryz.func160,Tryz.ntmps160
 go_wp2_with fail
 refine (H1.out _ (HA.out.alloc _)).mono ?_
 rintro e w1 ⟨x,st',rfl,hsx,hnx,r1,s1,hr⟩
 have hG:=SGrown.first (s1.at (heap_alloc_new w _) (by omega)) hsx hnx (by simp) r1 (((Step.refl rb w).alloc _).trans s1) hrb _ rfl
 have HI:=xaQ (HT.out x.erase st' hr)
 have hz:w.heap.size<w1.heap.size:=(Array.getElem?_eq_some_iff.1 (s1.at (heap_alloc_new w _) (by omega))).1
 obtain ⟨xk,xs,xm,xa,xc,xkk⟩:=x
 have HG:=xaQ hG
 clear hG hsx hnx r1 s1 H1 HA hr HT
 simp only [A.val]
 go_wp2
 go_loopw [] (fun w'=>∃ (x:A) (st':St2),SGrown rb a cap ws w w1.heap.size w' x st'∧TInv ws f (yjQ ws) R (i,b) x.erase st') (fun w'=>ws.length - posOf rb w')
 case atStart=>exact ⟨_,_,HG.out,HI.out⟩
 case round =>
  obtain ⟨x,st2,hG,hI⟩:=hrel
  obtain ⟨yk,ys,ym,ya,yc,ykk⟩:=x
  have G0:=xaQ hG
  have I0:=xaQ hI
  have hpos:=hG.sd.pos
  have HPo:=xaQ hpos
  clear hG hI hpos HG HI
  by_cases hw:tk ws st2 ⟨#[43]⟩=true
  ·have T0:=xaQ (fun w h=>x2Q rb a cap ws st2 ⟨#[43]⟩ (by decide) w h hw)
   obtain ⟨j,c⟩:=st2
   obtain ⟨hc,hw2⟩:=tk_yes hw
   simp only at hc hw2
   subst hc
   have hjl:=yCQ hw2
   obtain ⟨hb,g,hgf,hgl,hm⟩:b=false∧∃ g,g≤f∧5 * (ws.length - j)+1≤g∧yjQ ws g (A.node yk ys ym ya yc ykk).erase j=R:=by
    rcases I0.out with ⟨h1,h2⟩ | ⟨h1,⟨h2,_⟩ | ⟨_,g,h3,h4,h5⟩⟩
    ·simp only at h1;subst h1;cases h2
    ·cases h2
    ·exact ⟨h1,g,h3,h4,h5⟩
   subst hb
   obtain ⟨g1,rfl⟩:∃ g1,g=g1+1:=⟨g - 1,by omega⟩
   have hm2:(zgQ ws g1 (j+1)).then_ (fun y k=>yjQ ws g1 (.node 6 nil_ 0 [(A.node yk ys ym ya yc ykk).erase,y]) k)=R:=by
    have:=hm
    simp only [yjQ] at this
    rw [if_pos hw2] at this
    exact this
   have H1:=xaQ (fun w h=>HO.out g1 (by omega) (j+1,false) w (by simp only;omega) h)
   have HS:=xaQ (fun (y:T) (st3:St2) (h:SR (zgQ ws g1 (j+1)) (j+1,false) y st3)=>show TInv ws f (yjQ ws) R (i,false) (.node 6 nil_ 0 [(A.node yk ys ym ya yc ykk).erase,y]) st3∧j<st3.1 from by
    have e1:=(adv ws g1).2.1 (j+1)
    have e2:=(advN ws g1).2.1 (j+1)
    generalize zgQ ws g1 (j+1)=r at h hm2 e1 e2
    refine ⟨.inr ⟨rfl,?_⟩,?_⟩
    ·cases r with
     | no p=>rw [h.no];exact .inl ⟨rfl,hm2.symm⟩
     | ok t k =>
      have:=e1 t k rfl
      rw [h.ok.2,h.ok.1]
      exact .inr ⟨rfl,g1,by omega,by simp only;omega,hm2⟩
    ·cases r with
     | no p=>rw [h.no];have:=e2 p rfl;simp only;omega
     | ok t k=>rw [h.ok.2];have:=e1 t k rfl;simp only;omega)
   clear hm hm2 hw hw2 I0 hgl
   go_wp2_with fail
   refine (T0.out _ G0.out.sd).mono ?_
   rintro e w2 ⟨rfl,r2,s2⟩
   have G2:=xaQ (G0.out.on s2 r2)
   clear r2 s2 T0
   go_wp2_with fail
   refine (H1.out _ G2.out.sd).mono ?_
   rintro e w3 ⟨z,st3,rfl,hsz,hnz,r3,s3,hr3⟩
   have hG3:=(G2.out.on s3 r3)
   have lz:=Sits.lt z hsz
   have hzw:=G2.out.plt
   have hxl:=Sits.lt _ G2.out.sits
   have hNN:=NewL.snoc (xs:=[A.node yk ys ym ya yc ykk]) (n1:=w2.heap.size) (NewL.one G2.out.new) (fun b hb=>hxl b (by rwa [zAQ] at hb)) hnz (by have:=G2.out.lt;omega)
   obtain ⟨zk,zs,zm,za,zc,zkk⟩:=z
   have G3:=xaQ (hG3.on ((Step.refl rb w3).alloc (.cells #[.int .i64 zk,.string zs,.int .i64 zm,.slice za zkk.length zc] 31)) (r3.alloc _))
   have HZ:=xaQ (Sits.stay _ (fun q hq=>Lib.alloc_old w3 (.cells #[.int .i64 zk,.string zs,.int .i64 zm,.slice za zkk.length zc] 31) q (lz q hq)) hsz)
   have HN:=xaQ hNN
   have HR3:=xaQ (HS.out _ _ hr3)
   have HOZ:Hid (w1.heap.size ∉ (A.node zk zs zm za zc zkk).foot):=fun q=>by have:=hnz.2 _ q;omega
   have hp3:w1.heap.size<w3.heap.size:=hG3.plt
   obtain ⟨d0,d1,d2,d3,e0,e1,e2,e3⟩:=xcQ (show w3.heap[w1.heap.size]?=some (.cells #[.int .i64 yk,.string ys,.int .i64 ym,.slice ya ykk.length yc] 31 (0,0)) from hG3.here)
   clear hG3 lz hxl hNN hsz hnz r3 s3 hr3 hzw H1 HS
   simp only [A.val]
   go_wp2_with fail
   refine (two_new 6 (.node yk ys ym ya yc ykk) (.node zk zs zm za zc zkk) _).mono ?_
   rintro e w4 ⟨bb,rfl,hB,hge,hb⟩
   obtain ⟨t1,t2⟩:=made (n:=w.heap.size+1) (k:=6) (m:=0) (s:=⟨#[]⟩) (c:=2) (xs:=[.node yk ys ym ya yc ykk,.node zk zs zm za zc zkk]) ⟨G3.out.sits,HZ.out,trivial⟩ hb hB hge HN.out (by have:=G3.out.plt;have:=G3.out.lt;omega) (by decide) (by simp [maxLen])
   have hoff:w1.heap.size ∉ (A.node 6 ⟨#[]⟩ 0 (some ⟨bb,0,none⟩) 2 [A.node yk ys ym ya yc ykk,.node zk zs zm za zc zkk]).foot:=by
    simp only [A.foot,List.length_cons,zVQ]
    intro q
    rw [List.mem_append] at q
    rcases q with q | q
    ·simp at q;have:=G3.out.plt;omega
    ·have hq':w1.heap.size∈(A.node yk ys ym ya yc ykk).foot∨w1.heap.size∈(A.node zk zs zm za zc zkk).foot:=by simpa [feet] using q
     rcases hq' with h | h
     ·exact G3.out.off h
     ·exact HOZ.out h
   have G4:=xaQ (G3.out.below hb)
   have G5:=xaQ ((G3.out.below hb).set t1 t2 hoff (.int .i64 6) (.string ⟨#[]⟩) (.int .i64 0) (.slice (some ⟨bb,0,none⟩) 2 2) rfl)
   obtain ⟨k0,k1,k2,k3,l0,l1,l2,l3⟩:=xcQ (show w4.heap[w1.heap.size]?=some (.cells #[.int .i64 yk,.string ys,.int .i64 ym,.slice ya ykk.length yc] 31 (0,0)) from G4.out.here)
   clear hB hge hb t1 t2 hoff d0 d1 d2 d3 e0 e1 e2 e3
   simp only [A.val]
   go_wp2
   go_roundw
   case rel=>exact ⟨_,_,G5.out,by rw [erase2];exact HR3.out.1⟩
   case measure=>rw [HPo.out];exact Nat.lt_of_le_of_lt (Nat.le_of_eq (congrArg (fun q=>ws.length - q) G5.out.sd.pos)) (by have:=HR3.out.2;omega)
  ·simp only [Bool.not_eq_true] at hw
   have hp:=hw
   clear hw
   by_cases hw:tk ws st2 ⟨#[45]⟩=true
   ·have T0:=xaQ (fun w h=>x2Q rb a cap ws st2 ⟨#[45]⟩ (by decide) w h hw)
    obtain ⟨j,c⟩:=st2
    obtain ⟨hc,hw2⟩:=tk_yes hw
    simp only at hc hw2
    subst hc
    have hno:isW ws j ⟨#[43]⟩=false:=by simpa [tk] using hp
    have T9:=xaQ (fun w h=>xjQ rb a cap ws (j,false) ⟨#[43]⟩ (by decide) w h hp)
    have hjl:=yCQ hw2
    obtain ⟨hb,g,hgf,hgl,hm⟩:b=false∧∃ g,g≤f∧5 * (ws.length - j)+1≤g∧yjQ ws g (A.node yk ys ym ya yc ykk).erase j=R:=by
     rcases I0.out with ⟨h1,h2⟩ | ⟨h1,⟨h2,_⟩ | ⟨_,g,h3,h4,h5⟩⟩
     ·simp only at h1;subst h1;cases h2
     ·cases h2
     ·exact ⟨h1,g,h3,h4,h5⟩
    subst hb
    obtain ⟨g1,rfl⟩:∃ g1,g=g1+1:=⟨g - 1,by omega⟩
    have hm2:(zgQ ws g1 (j+1)).then_ (fun y k=>yjQ ws g1 (.node 7 nil_ 0 [(A.node yk ys ym ya yc ykk).erase,y]) k)=R:=by
     have:=hm
     simp only [yjQ] at this
     rw [if_neg (by rw [hno];decide),if_pos hw2] at this
     exact this
    have H1:=xaQ (fun w h=>HO.out g1 (by omega) (j+1,false) w (by simp only;omega) h)
    have HS:=xaQ (fun (y:T) (st3:St2) (h:SR (zgQ ws g1 (j+1)) (j+1,false) y st3)=>show TInv ws f (yjQ ws) R (i,false) (.node 7 nil_ 0 [(A.node yk ys ym ya yc ykk).erase,y]) st3∧j<st3.1 from by
     have e1:=(adv ws g1).2.1 (j+1)
     have e2:=(advN ws g1).2.1 (j+1)
     generalize zgQ ws g1 (j+1)=r at h hm2 e1 e2
     refine ⟨.inr ⟨rfl,?_⟩,?_⟩
     ·cases r with
      | no p=>rw [h.no];exact .inl ⟨rfl,hm2.symm⟩
      | ok t k =>
       have:=e1 t k rfl
       rw [h.ok.2,h.ok.1]
       exact .inr ⟨rfl,g1,by omega,by simp only;omega,hm2⟩
     ·cases r with
      | no p=>rw [h.no];have:=e2 p rfl;simp only;omega
      | ok t k=>rw [h.ok.2];have:=e1 t k rfl;simp only;omega)
    clear hm hm2 hw hw2 I0 hgl hp hno
    go_wp2_with fail
    refine (T9.out _ G0.out.sd).mono ?_
    rintro e w9 ⟨rfl,r9,s9⟩
    have G9:=xaQ (G0.out.on s9 r9)
    clear r9 s9 T9
    go_wp2_with fail
    refine (T0.out _ G9.out.sd).mono ?_
    rintro e w2 ⟨rfl,r2,s2⟩
    have G2:=xaQ (G9.out.on s2 r2)
    clear r2 s2 T0
    go_wp2_with fail
    refine (H1.out _ G2.out.sd).mono ?_
    rintro e w3 ⟨z,st3,rfl,hsz,hnz,r3,s3,hr3⟩
    have hG3:=(G2.out.on s3 r3)
    have lz:=Sits.lt z hsz
    have hzw:=G2.out.plt
    have hxl:=Sits.lt _ G2.out.sits
    have hNN:=NewL.snoc (xs:=[A.node yk ys ym ya yc ykk]) (n1:=w2.heap.size) (NewL.one G2.out.new) (fun b hb=>hxl b (by rwa [zAQ] at hb)) hnz (by have:=G2.out.lt;omega)
    obtain ⟨zk,zs,zm,za,zc,zkk⟩:=z
    have G3:=xaQ (hG3.on ((Step.refl rb w3).alloc (.cells #[.int .i64 zk,.string zs,.int .i64 zm,.slice za zkk.length zc] 31)) (r3.alloc _))
    have HZ:=xaQ (Sits.stay _ (fun q hq=>Lib.alloc_old w3 (.cells #[.int .i64 zk,.string zs,.int .i64 zm,.slice za zkk.length zc] 31) q (lz q hq)) hsz)
    have HN:=xaQ hNN
    have HR3:=xaQ (HS.out _ _ hr3)
    have HOZ:Hid (w1.heap.size ∉ (A.node zk zs zm za zc zkk).foot):=fun q=>by have:=hnz.2 _ q;omega
    have hp3:w1.heap.size<w3.heap.size:=hG3.plt
    obtain ⟨d0,d1,d2,d3,e0,e1,e2,e3⟩:=xcQ (show w3.heap[w1.heap.size]?=some (.cells #[.int .i64 yk,.string ys,.int .i64 ym,.slice ya ykk.length yc] 31 (0,0)) from hG3.here)
    clear hG3 lz hxl hNN hsz hnz r3 s3 hr3 hzw H1 HS
    simp only [A.val]
    go_wp2_with fail
    refine (two_new 7 (.node yk ys ym ya yc ykk) (.node zk zs zm za zc zkk) _).mono ?_
    rintro e w4 ⟨bb,rfl,hB,hge,hb⟩
    obtain ⟨t1,t2⟩:=made (n:=w.heap.size+1) (k:=7) (m:=0) (s:=⟨#[]⟩) (c:=2) (xs:=[.node yk ys ym ya yc ykk,.node zk zs zm za zc zkk]) ⟨G3.out.sits,HZ.out,trivial⟩ hb hB hge HN.out (by have:=G3.out.plt;have:=G3.out.lt;omega) (by decide) (by simp [maxLen])
    have hoff:w1.heap.size ∉ (A.node 7 ⟨#[]⟩ 0 (some ⟨bb,0,none⟩) 2 [A.node yk ys ym ya yc ykk,.node zk zs zm za zc zkk]).foot:=by
     simp only [A.foot,List.length_cons,zVQ]
     intro q
     rw [List.mem_append] at q
     rcases q with q | q
     ·simp at q;have:=G3.out.plt;omega
     ·have hq':w1.heap.size∈(A.node yk ys ym ya yc ykk).foot∨w1.heap.size∈(A.node zk zs zm za zc zkk).foot:=by simpa [feet] using q
      rcases hq' with h | h
      ·exact G3.out.off h
      ·exact HOZ.out h
    have G4:=xaQ (G3.out.below hb)
    have G5:=xaQ ((G3.out.below hb).set t1 t2 hoff (.int .i64 7) (.string ⟨#[]⟩) (.int .i64 0) (.slice (some ⟨bb,0,none⟩) 2 2) rfl)
    obtain ⟨k0,k1,k2,k3,l0,l1,l2,l3⟩:=xcQ (show w4.heap[w1.heap.size]?=some (.cells #[.int .i64 yk,.string ys,.int .i64 ym,.slice ya ykk.length yc] 31 (0,0)) from G4.out.here)
    clear hB hge hb t1 t2 hoff d0 d1 d2 d3 e0 e1 e2 e3
    simp only [A.val]
    go_wp2
    go_roundw
    case rel=>exact ⟨_,_,G5.out,by rw [erase2];exact HR3.out.1⟩
    case measure=>rw [HPo.out];exact Nat.lt_of_le_of_lt (Nat.le_of_eq (congrArg (fun q=>ws.length - q) G5.out.sd.pos)) (by have:=HR3.out.2;omega)
   ·simp only [Bool.not_eq_true] at hw
    have T0:=xaQ (fun w h=>xjQ rb a cap ws st2 ⟨#[45]⟩ (by decide) w h hw)
    have T9:=xaQ (fun w h=>xjQ rb a cap ws st2 ⟨#[43]⟩ (by decide) w h hp)
    have HE:Hid (SR R (i,b) (A.node yk ys ym ya yc ykk).erase st2):=tinv_end I0.out (fun h0 g hg=>by
     obtain ⟨g1,rfl⟩:∃ g1,g=g1+1:=⟨g - 1,by omega⟩
     have:isW ws st2.1 ⟨#[45]⟩=false:=by simpa [tk,h0] using hw
     have this2:isW ws st2.1 ⟨#[43]⟩=false:=by simpa [tk,h0] using hp
     simp only [yjQ]
     rw [if_neg (by rw [this2];decide),if_neg (by rw [this];decide)])
    clear hw I0 hp
    go_wp2_with fail
    refine (T9.out _ G0.out.sd).mono ?_
    rintro e w9 ⟨rfl,r9,s9⟩
    have G9:=xaQ (G0.out.on s9 r9)
    clear r9 s9 T9
    go_wp2_with fail
    refine (T0.out _ G9.out.sd).mono ?_
    rintro e w2 ⟨rfl,r2,s2⟩
    have G2:=xaQ (G9.out.on s2 r2)
    clear r2 s2 T0
    obtain ⟨d0,d1,d2,d3,_⟩:=xcQ (show w2.heap[w1.heap.size]?=some (.cells #[.int .i64 yk,.string ys,.int .i64 ym,.slice ya ykk.length yc] 31 (0,0)) from G2.out.here)
    obtain ⟨c0,c1,c2,c3,f0,f1,f2,f3⟩:=xcQ G2.out.res
    go_wp2
    obtain ⟨q0,q1,q2,q3⟩:=xhQ G2.out.res (.int .i64 yk) (.string ys) (.int .i64 ym) (.slice ya ykk.length yc)
    exact bodyPost_ret (v:=(A.node yk ys ym ya yc ykk).val) (by simp [results,Tryz.results160,go_sem,q0,q1,q2,q3,A.val]) rfl (yGQ _ _ _ _ _ G2.out.sd hrb G2.out.step G2.out.sits G2.out.new (by omega) HE.out)
theorem sone_step {rb:Nat} {a:Option Addr} {cap:Nat} {ws:List W3} {f:Nat} (he:Env ws) (hO:SOne rb a cap ws f) (hE:SExpr rb a cap ws f):SOne rb a cap ws (f+1):=by
 rintro ⟨i,b⟩ w hf h
 simp only at hf
 cases b with
 | true=>exact sone_bad i w h
 | false =>
  by_cases n0:isW ws i ⟨#[45]⟩=true
  ·exact sone_neg hO i w hf h n0
  ·simp only [Bool.not_eq_true] at n0
   by_cases n2:xTQ ws i=2
   ·exact sone_num he i w h n0 n2
   ·have n2':(xTQ ws i == 2)=false:=by simpa using n2
    by_cases n1:isW ws i ⟨#[40]⟩=true
    ·exact sone_par hE i w hf h n0 n2' n1
    ·simp only [Bool.not_eq_true] at n1
     by_cases n3:isW ws i ⟨#[108,101,110]⟩=true
     ·exact sone_len he i w h n0 n1 n2' n3
     ·simp only [Bool.not_eq_true] at n3
      by_cases hv:xTQ ws i=1∧isW ws (i+1) ⟨#[91]⟩=true
      ·exact sone_cell he hE i w hf h n0 n1 n2' n3 hv.1 hv.2
      ·refine sone_var he i w h n0 n1 n2' n3 ?_
       by_cases q:xTQ ws i=1
       ·have e1:nmS ws (i,false)=(i+1,false):=by simp [nmS,nmB,q]
        rw [e1,xoQ]
        cases q2:isW ws (i+1) ⟨#[91]⟩ with
        | false=>rfl
        | true=>exact absurd ⟨q,q2⟩ hv
       ·have e1:nmS ws (i,false)=(i,true):=by simp [nmS,nmB,q]
        rw [e1];simp [tk]
theorem sexpr_all {rb:Nat} {a:Option Addr} {cap:Nat} {ws:List W3} (he:Env ws) (f:Nat):∀ g,g≤f→SOne rb a cap ws g∧STerm rb a cap ws g∧SExpr rb a cap ws g:=by
 induction f with
 | zero =>
  intro g hg
  have:g=0:=by omega
  subst this
  exact ⟨fun i w h=>by omega,fun i w h=>by omega,fun i w h=>by omega⟩
 | succ f ih =>
  intro g hg
  by_cases q:g≤f
  ·exact ih g q
  ·have:g=f+1:=by omega
   subst this
   exact ⟨sone_step he (ih f (Nat.le_refl _)).1 (ih f (Nat.le_refl _)).2.2,sterm_step fun g hg=>(ih g hg).1,sexpr_step fun g hg=>(ih g hg).2.1⟩
theorem str_is (s:ByteArray) (l:List UInt8):(s.toList == l)=decide (s=⟨l.toArray⟩):=by
 have h:=str_eq s ⟨l.toArray⟩
 rw [← h]
 congr 1
 rw [Lib.toList_data]
theorem rel_any (s:ByteArray) (w:World):Calls Tryz.prog 169 #[.string s] w fun e w'=>e=.returned (.int .i64 (relI s))∧w=w':=by
 have e1:=str_is s [60]
 have e2:=str_is s [60,61]
 have e3:=str_is s [62]
 have e4:=str_is s [62,61]
 have e5:=str_is s [61,61]
 have e6:=str_is s [33,61]
 have H1:=xaQ e1
 have H2:=xaQ e2
 have H3:=xaQ e3
 have H4:=xaQ e4
 have H5:=xaQ e5
 have H6:=xaQ e6
 clear e1 e2 e3 e4 e5 e6
 go_enter Tryz.func169,Tryz.ntmps169
 go_wp2
 all_goals
  go_ret
  refine ⟨xVQ ?_,rfl⟩
  have e1:=H1.out
  have e2:=H2.out
  have e3:=H3.out
  have e4:=H4.out
  have e5:=H5.out
  have e6:=H6.out
  simp_all [relI]
theorem sText_st (rb:Nat) (a:Option Addr) (cap:Nat) (ws:List W3) (st:St2) (w:World) (h:Sd w rb a cap ws st) :
    Calls Tryz.prog 127 #[.pointer (some ⟨rb,0,none⟩)] w fun e w'=>e=.returned (.string (xPQ ws st.1))∧Sd w' rb a cap ws st∧Step rb w w':=by
 refine (sText_any rb a cap ws st w h).mono ?_
 rintro e w' ⟨rfl,n,rfl⟩
 exact ⟨rfl,h.drewN n,(Step.refl rb w).drewN n⟩
theorem src_bad {ws:List W3} {F i:Nat} {b:Bool} {x t:T} {j:Nat} (h:SR (x0Q ws F i) (i,b) x (j,true)):SR (zPQ ws F i) (i,b) t (j,true):=by
 cases b with
 | true=>have:=h.bad;rw [this];exact SR.mk_bad _ _ _
 | false =>
  unfold zPQ
  generalize x0Q ws F i=r at h ⊢
  cases r with
  | no p=>have:=h.no;rw [this];exact SR.mk_no _ _ _
  | ok t j=>have:=h.ok.2;cases this
theorem src_none {ws:List W3} {F i:Nat} {b:Bool} {x t:T} {j:Nat} (h:SR (x0Q ws F i) (i,b) x (j,false)) (hr:relI (xPQ ws j)=0):SR (zPQ ws F i) (i,b) t (j,true):=by
 cases b with
 | true=>have:=h.bad;cases this
 | false =>
  unfold zPQ
  generalize x0Q ws F i=r at h ⊢
  cases r with
  | no p=>have:=h.no;cases this
  | ok t j' =>
   have e:=h.ok.2
   have:j=j':=by injection e
   subst this
   simp only [Res.then_]
   rw [if_pos hr];exact SR.mk_no _ _ _
theorem src_two {ws:List W3} {F i:Nat} {b:Bool} {x y:T} {j:Nat} {st2:St2} (h:SR (x0Q ws F i) (i,b) x (j,false)) (hr:relI (xPQ ws j)≠0) (h2:SR (x0Q ws F (j+1)) (j+1,false) y st2):SR (zPQ ws F i) (i,b) (.node (relI (xPQ ws j)) nil_ 0 [x,y]) st2:=by
 cases b with
 | true=>have:=h.bad;cases this
 | false =>
  unfold zPQ
  generalize x0Q ws F i=r at h ⊢
  cases r with
  | no p=>have:=h.no;cases this
  | ok t j' =>
   have e:=h.ok.2
   have:j=j':=by injection e
   subst this
   rw [h.ok.1]
   simp only [Res.then_]
   rw [if_neg hr]
   generalize x0Q ws F (j+1)=r2 at h2 ⊢
   cases r2 with
   | no p=>rw [h2.no];exact SR.mk_no _ _ _
   | ok t2 j2=>rw [h2.ok.1,h2.ok.2];exact SR.mk_ok _ _ _
def SCond (rb:Nat) (a:Option Addr) (cap:Nat) (ws:List W3) (F:Nat):Prop:=∀ (st:St2) (w:World),Sd w rb a cap ws st→Calls Tryz.prog 158 #[.pointer (some ⟨rb,0,none⟩)] w (zcQ rb a cap ws w (zPQ ws F st.1) st)
theorem scond_all {rb:Nat} {a:Option Addr} {cap:Nat} {ws:List W3} {F:Nat} (hF:5 * ws.length+3≤F) (hfew:ws.length≤1500) (hE:SExpr rb a cap ws F):SCond rb a cap ws F:=by
 rintro ⟨i,b⟩ w h
 have HE:=xaQ hE
 have H1:=xaQ (fun w h=>hE (i,b) w (by simp only;omega) h)
 have HA:=xaQ h
 have hrb:=h.lt
 clear h hE
 go_enter Tryz.func158,Tryz.ntmps158
 go_wp2_with fail
 refine (H1.out _ (HA.out.alloc _)).mono ?_
 rintro e w1 ⟨x,st1,rfl,hsx,hnx,r1,s1,hr⟩
 have hG:=SGrown.first (s1.at (heap_alloc_new w _) (by omega)) hsx hnx (by simp) r1 (((Step.refl rb w).alloc _).trans s1) hrb _ rfl
 have hz:w.heap.size<w1.heap.size:=(Array.getElem?_eq_some_iff.1 (s1.at (heap_alloc_new w _) (by omega))).1
 obtain ⟨xk,xs,xm,xa,xc,xkk⟩:=x
 have HG:=xaQ hG
 have HR:=xaQ hr
 have C1:=xaQ (fun w h=>sText_st rb a cap ws st1 w h)
 clear hG hsx hnx r1 s1 H1 HA hr
 simp only [A.val]
 go_wp2_with fail
 refine (C1.out _ HG.out.sd).mono ?_
 rintro e w2 ⟨rfl,r2,s2⟩
 have G2:=xaQ (HG.out.on s2 r2)
 clear r2 s2 C1 HG
 go_wp2_with fail
 refine (rel_any _ _).mono ?_
 rintro e w9 ⟨rfl,rfl⟩
 obtain ⟨j,c⟩:=st1
 obtain ⟨x0,x1,x2,x3,x4⟩:=G2.out.sd.cells
 simp only at x1 x2
 obtain ⟨c0,c1,c2,c3,f0,f1,f2,f3⟩:=xcQ G2.out.res
 cases c with
 | true =>
  have B2:=xaQ G2.out.sd.badly
  have HP:=xaQ ((Below.heap_setCell w2 ⟨rb,2,none⟩ (.bool true) w.heap.size (by show w.heap.size≠rb;omega)).trans G2.out.res)
  go_wp2
  obtain ⟨q0,q1,q2,q3⟩:=xhQ HP.out (.int .i64 0) (.string ⟨#[]⟩) (.int .i64 0) (.slice none 0 0)
  exact bodyPost_ret (v:=(A.node 0 ⟨#[]⟩ 0 none 0 []).val) (by simp [results,Tryz.results158,go_sem,q0,q1,q2,q3,A.val]) rfl (sp_leaf 0 0 ⟨#[]⟩ B2.out hrb (G2.out.step.setCell (.inr rfl) _) (by decide) (src_bad HR.out))
 | false =>
  by_cases hk:(relI (xPQ ws j) == 0)=true
  ·have B2:=xaQ G2.out.sd.badly
   have HP:=xaQ ((Below.heap_setCell w2 ⟨rb,2,none⟩ (.bool true) w.heap.size (by show w.heap.size≠rb;omega)).trans G2.out.res)
   go_wp2
   obtain ⟨q0,q1,q2,q3⟩:=xhQ HP.out (.int .i64 0) (.string ⟨#[]⟩) (.int .i64 0) (.slice none 0 0)
   exact bodyPost_ret (v:=(A.node 0 ⟨#[]⟩ 0 none 0 []).val) (by simp [results,Tryz.results158,go_sem,q0,q1,q2,q3,A.val]) rfl (sp_leaf 0 0 ⟨#[]⟩ B2.out hrb (G2.out.step.setCell (.inr rfl) _) (by decide) (src_none HR.out (by simpa using hk)))
  ·have hk0:relI (xPQ ws j)≠0:=by simpa using hk
   simp only [Bool.not_eq_true] at hk
   have HK0:=xaQ hk0
   have hjl:j<ws.length:=by
    rcases Nat.lt_or_ge j ws.length with q | q
    ·exact q
    ·rw [textW_end q] at hk0;exact absurd (by decide) hk0
   have hG3:=G2.out.on ((Step.refl rb w2).setCell (p:=⟨rb,1,none⟩) (.inr rfl) (.int .i64 ((j+1:Nat):Int))) (G2.out.sd.next (j+1))
   have hcast:((j+1:Nat):Int)=(j:Int)+1:=by omega
   rw [hcast] at hG3
   have H2:=xaQ (fun w h=>HE.out (j+1,false) w (by simp only;omega) h)
   generalize hkk:relI (xPQ ws j)=kk at hk HK0 ⊢
   have HKK:=xaQ hkk
   have G3:=xaQ hG3
   clear hk0 hG3 hcast hkk c0 c1 c2 c3 f0 f1 f2 f3 HE
   go_wp2_with fail
   refine (H2.out _ G3.out.sd).mono ?_
   rintro e w4 ⟨y,st4,rfl,hsy,hny,r4,s4,hr4⟩
   have hG4:=G3.out.on s4 r4
   have ly:=Sits.lt y hsy
   have hxl:=Sits.lt _ G3.out.sits
   have hz2:(w2.setCell ⟨rb,1,none⟩ (.int .i64 ((j:Int)+1))).heap.size=w2.heap.size:=by simp [World.setCell]
   have hp2:=G2.out.plt
   have hNN:=NewL.snoc (xs:=[A.node xk xs xm xa xc xkk]) (n1:=(w2.setCell ⟨rb,1,none⟩ (.int .i64 ((j:Int)+1))).heap.size) (NewL.one G3.out.new) (fun b hb=>hxl b (by rwa [zAQ] at hb)) hny (by rw [hz2];omega)
   obtain ⟨yk,ys,ym,ya,yc,ykk⟩:=y
   have hG5:=hG4.on ((Step.refl rb w4).alloc (.cells #[.int .i64 yk,.string ys,.int .i64 ym,.slice ya ykk.length yc] 31)) (r4.alloc _)
   have G5:=xaQ hG5
   have HY:=xaQ (Sits.stay _ (fun q hq=>Lib.alloc_old w4 (.cells #[.int .i64 yk,.string ys,.int .i64 ym,.slice ya ykk.length yc] 31) q (ly q hq)) hsy)
   have HN:=xaQ hNN
   have HR4:=xaQ (src_two HR.out (by rw [HKK.out];exact HK0.out) hr4)
   have hp4:w1.heap.size<w4.heap.size:=hG4.plt
   have hq4:w.heap.size<w4.heap.size:=by omega
   obtain ⟨d0,d1,d2,d3,_⟩:=xcQ (show w4.heap[w1.heap.size]?=some (.cells #[.int .i64 xk,.string xs,.int .i64 xm,.slice xa xkk.length xc] 31 (0,0)) from hG4.here)
   clear hG4 hG5 ly hxl hNN hsy hny r4 s4 hr4 hz2 x0 x1 x2 x3 x4
   simp only [A.val]
   go_wp2_with fail
   refine (two_new kk (.node xk xs xm xa xc xkk) (.node yk ys ym ya yc ykk) _).mono ?_
   rintro e w5 ⟨bb,rfl,hB,hge,hb⟩
   obtain ⟨t1,t2⟩:=made (n:=w.heap.size+1) (k:=kk) (m:=0) (s:=⟨#[]⟩) (c:=2) (xs:=[.node xk xs xm xa xc xkk,.node yk ys ym ya yc ykk]) ⟨G5.out.sits,HY.out,trivial⟩ hb hB hge HN.out (by simp;omega) (by decide) (by simp [maxLen])
   have G6:=xaQ (G5.out.below hb)
   have HT1:=xaQ t1
   have HT2:=xaQ t2
   clear hB hge hb t1 t2 d0 d1 d2 d3
   obtain ⟨c0,c1,c2,c3,f0,f1,f2,f3⟩:=xcQ G6.out.res
   simp only [A.val]
   go_wp2
   obtain ⟨q0,q1,q2,q3⟩:=xhQ G6.out.res (.int .i64 kk) (.string ⟨#[]⟩) (.int .i64 0) (.slice (some ⟨bb,0,none⟩) 2 2)
   exact bodyPost_ret (v:=(A.node kk ⟨#[]⟩ 0 (some ⟨bb,0,none⟩) 2 [.node xk xs xm xa xc xkk,.node yk ys ym ya yc ykk]).val) (by simp [results,Tryz.results158,go_sem,q0,q1,q2,q3,A.val]) rfl (yGQ _ _ _ _ _ G6.out.sd hrb G6.out.step HT1.out HT2.out (by omega) (by rw [erase2];have:=HR4.out;rw [HKK.out] at this;exact this))
structure Stem (rb:Nat) (a:Option Addr) (cap:Nat) (ws:List W3) (sz:Nat) (w:World) (p1:Nat) (k:Int) (s:ByteArray) (w':World) (els:List A) (sa:Option Addr) (sc:Nat) (j:Nat):Prop where
 here:w'.heap[p1]?=some (.cells #[.int .i64 k,.string s,.int .i64 0,.slice sa els.length sc] 31 (0,0))
 res:w'.heap[w.heap.size]?=some (.cells #[.int .i64 0,.string ⟨#[]⟩,.int .i64 0,.slice none 0 0] 31 (0,0))
 own:w'.ownsRow (p1+1) 31 4 (.slice sa els.length sc) els.length (xqQ els)
 sits:SitsL w' els
 new:NewL (p1+1) els
 apart:∀ g,(Value.slice sa els.length sc).ownBlock=some g→g ∉ feet els
 rd:Rd w' rb a cap ws j sz
 step:Step rb w w'
 lt:w.heap.size<p1
 rlt:rb<w.heap.size
section
variable {rb:Nat} {a:Option Addr} {cap:Nat} {ws:List W3} {sz:Nat} {w:World} {p1:Nat} {k:Int} {s:ByteArray} {w':World} {els:List A} {sa:Option Addr} {sc:Nat} {j:Nat}
theorem Stem.plt (h:Stem rb a cap ws sz w p1 k s w' els sa sc j):p1<w'.heap.size:=(Array.getElem?_eq_some_iff.1 h.here).1
theorem Stem.on {w2:World} {j2:Nat} (h:Stem rb a cap ws sz w p1 k s w' els sa sc j) (st:Step rb w' w2) (r:Rd w2 rb a cap ws j2 sz):Stem rb a cap ws sz w p1 k s w2 els sa sc j2:=by
 have hr:=h.rlt
 have hl:=h.lt
 refine ⟨st.at h.here (by omega),st.at h.res (by omega),h.own.kept st (.inr fun e=>?_),st.sitsL h.sits (fun q hq=>by have:=h.new.2 q hq;omega),h.new,h.apart,r,h.step.trans st,hl,hr⟩
 have:=(h.own.lt rb e).1
 omega
theorem Stem.drew (h:Stem rb a cap ws sz w p1 k s w' els sa sc j):Stem rb a cap ws sz w p1 k s w'.drew els sa sc j:=h.on (Step.refl rb w').drew h.rd.drew
theorem Stem.push {w3 w4:World} {x:A} {j2 g c2:Nat} (h:Stem rb a cap ws sz w p1 k s w' els sa sc j) (st:Step rb w' w3) (r:Rd w3 rb a cap ws j2 sz) (hx:Sits w3 x) (hn:New w'.heap.size x) (cs:Array Value)
    (hown:w4.ownsRow (p1+1) 31 4 (.slice (some ⟨g,0,none⟩) (els.length+1) c2) (els.length+1) (xqQ els++x.cells)) (hgrow:(w3.alloc (.cells cs 31)).grownBy w4 (Value.slice sa els.length sc).ownBlock)
    (hat:(Value.slice sa els.length sc).ownBlock=some g∨g=w3.heap.size+1) :
    Stem rb a cap ws sz w p1 k s (w4.setCell ⟨p1,3,none⟩ (.slice (some ⟨g,0,none⟩) (els.length+1) c2)) (els++[x]) (some ⟨g,0,none⟩) c2 j2:=by
 have h3:=h.on st r
 have hr:=h.rlt
 have hl:=h.lt
 have hp:=h3.plt
 have hp0:=h.plt
 have lx:=Sits.lt x hx
 have le:=SitsL.lt h3.sits
 have le0:=SitsL.lt h.sits
 have hol:=h.own.lt
 have hlen:(els++[x]).length=els.length+1:=by simp
 have hcl:xqQ (els++[x])=xqQ els++x.cells:=by rw [ziQ];simp [xqQ]
 -- what the append leaves
 have keep:∀ q,q<w3.heap.size→(∀ g',(Value.slice sa els.length sc).ownBlock=some g'→q≠g')→w4.heap[q]?=w3.heap[q]?:=fun q hq hne=>by
  rw [hgrow.block q (by simp;omega) (fun e=>hne q e.symm rfl),Lib.alloc_old _ _ _ hq]
 have gg:p1+1≤g:=by
  have:=(hown.lt g rfl).1
  exact this
 have set:∀ q,q≠p1→(w4.setCell ⟨p1,3,none⟩ (.slice (some ⟨g,0,none⟩) (els.length+1) c2)).heap[q]?=w4.heap[q]?:=fun q hq=>Below.heap_setCell _ _ _ _ hq
 have p1k:=keep p1 hp (fun g' e=>by have:=(hol g' e).1;omega)
 refine ⟨?_,?_,?_,?_,?_,?_,?_,?_,hl,hr⟩
 ·have:=heap_setCell_same w4 p1 3 _ 31 (.slice (some ⟨g,0,none⟩) (els.length+1) c2) (p1k.trans h3.here)
  rw [this,hlen];rfl
 ·rw [set _ (by omega),keep _ (by omega) (fun g' e=>by have:=(hol g' e).1;omega)]
  exact h3.res
 ·rw [hlen,hcl]
  exact hown.kept (row:=some p1) ⟨rfl,rfl,rfl,by simp [World.setCell],fun q _ hq=>set q (fun e=>hq (by rw [e]))⟩ (.inr fun e=>by simp [Value.ownBlock] at e;omega)
 ·refine zDQ (h3.sits.stay fun q hq=>?_) (Sits.stay x (fun q hq=>?_) hx)
  ·rw [set q (by have:=h.new.2 q hq;omega),keep q (le q hq) (fun g' e=>fun e2=>h.apart g' e (e2 ▸ hq))]
  ·rw [set q (by have:=hn.2 q hq;omega),keep q (lx q hq) (fun g' e=>by have:=(hol g' e).2;have:=hn.2 q hq;omega)]
 ·exact NewL.snoc h.new le0 hn (by omega)
 ·intro g' e hq
  rw [hlen] at e
  simp [Value.ownBlock] at e
  subst e
  rw [yeQ,zAQ,List.mem_append] at hq
  rcases hat with hat | hat
  ·rcases hq with hq | hq
   ·exact h.apart g hat hq
   ·have:=(hol g hat).2
    have:=hn.2 g hq
    omega
  ·rcases hq with hq | hq
   ·have:=le g hq;omega
   ·have:=lx g hq;omega
 ·refine Rd.setCell ?_ (show rb<p1 by omega) _
  refine (r.alloc (.cells cs 31)).keep ⟨hgrow.os,hgrow.tape,hgrow.output,hgrow.size,fun q hq=>hgrow.block q (by have:=r.lt;simp;omega) (fun e=>by have:=(hol q e.symm).1;omega)⟩
 ·have h4:Step rb w w4:=⟨hgrow.os.trans h3.step.os,hgrow.tape.trans h3.step.tape,hgrow.output.trans h3.step.output,by have:=hgrow.size;have:=h3.step.size;simp at *;omega,fun q hq hne=>by
    have:=h3.step.size
    rw [keep q (by omega) (fun g' e=>by have:=(hol g' e).1;omega)]
    exact h3.step.block q hq hne⟩
  exact h4.setCell (.inl (show w.heap.size≤p1 by omega)) _
theorem Stem.tree (h:Stem rb a cap ws sz w p1 k s w' els sa sc j) (hs:s.size≤maxLen) (hn:els.length≤maxLen):Sits w' (.node k s 0 sa sc els)∧New (w.heap.size+1) (.node k s 0 sa sc els):=by
 have hl:=h.lt
 rcases h.own.2 with ⟨e,h0⟩ | ⟨g,c,cur,e,hb,hg,h1,h2,h3,h4⟩
 ·have:els=[]:=List.eq_nil_of_length_eq_zero h0
  subst this
  exact ⟨Sits.leaf _ _ _ hs,New.leaf _ _ _ _ _ _⟩
 ·have ea:sa=some ⟨g,0,none⟩:=by simp at e;exact e.1
  subst ea
  refine ⟨Sits.node hs hn h.sits hg (fun i v hv=>?_),New.node (h.new.mono (by omega)) (by omega) (h.apart g rfl)⟩
  rw [← h4,List.getElem?_take] at hv
  split at hv
  ·simpa using hv
  ·cases hv
theorem Stem.start {w1:World} (hP:w1.heap[w.heap.size]?=some (.cells #[.int .i64 0,.string ⟨#[]⟩,.int .i64 0,.slice none 0 0] 31 (0,0))) (r:Rd w1 rb a cap ws j sz) (st:Step rb w w1) (hr:rb<w.heap.size) (k:Int) (s:ByteArray) :
    Stem rb a cap ws sz w w1.heap.size k s (w1.alloc (.cells #[.int .i64 k,.string s,.int .i64 0,.slice none 0 0] 31)) [] none 0 j:=by
 have z1:w.heap.size<w1.heap.size:=(Array.getElem?_eq_some_iff.1 hP).1
 exact ⟨heap_alloc_new w1 _,(Lib.alloc_old _ _ _ z1).trans hP,World.ownsRow_nil _ _ _ _,trivial,⟨List.nodup_nil,fun b hb=>(by cases hb)⟩,fun g e=>(by cases e),r.alloc _,st.alloc _,z1,hr⟩
theorem Stem.kind (h:Stem rb a cap ws sz w p1 k s w' els sa sc j) (k2:Int):Stem rb a cap ws sz w p1 k2 s (w'.setCell ⟨p1,0,none⟩ (.int .i64 k2)) els sa sc j:=by
 have hr:=h.rlt
 have hl:=h.lt
 have set:∀ q,q≠p1→(w'.setCell ⟨p1,0,none⟩ (.int .i64 k2)).heap[q]?=w'.heap[q]?:=fun q hq=>Below.heap_setCell _ _ _ _ hq
 refine ⟨?_,(set _ (by omega)).trans h.res,h.own.kept (row:=some p1) ⟨rfl,rfl,rfl,by simp [World.setCell],fun q _ hq=>set q (fun e=>hq (by rw [e]))⟩ (.inr fun e=>by have:=(h.own.lt p1 e).1;omega),h.sits.stay (fun q hq=>set q (by have:=h.new.2 q hq;omega)),h.new,h.apart,h.rd.setCell (show rb<p1 by omega) _,h.step.setCell (.inl (show w.heap.size≤p1 by omega)) _,hl,hr⟩
 have:=heap_setCell_same w' p1 0 _ 31 (.int .i64 k2) h.here
 rw [this];rfl
end
structure SStem (rb:Nat) (a:Option Addr) (cap:Nat) (ws:List W3) (w:World) (p1:Nat) (k:Int) (s:ByteArray) (w':World) (els:List A) (sa:Option Addr) (sc:Nat) (st:St2):Prop where
 here:w'.heap[p1]?=some (.cells #[.int .i64 k,.string s,.int .i64 0,.slice sa els.length sc] 31 (0,0))
 res:w'.heap[w.heap.size]?=some (.cells #[.int .i64 0,.string ⟨#[]⟩,.int .i64 0,.slice none 0 0] 31 (0,0))
 own:w'.ownsRow (p1+1) 31 4 (.slice sa els.length sc) els.length (xqQ els)
 sits:SitsL w' els
 new:NewL (p1+1) els
 apart:∀ g,(Value.slice sa els.length sc).ownBlock=some g→g ∉ feet els
 rd:Sd w' rb a cap ws st
 step:Step rb w w'
 lt:w.heap.size<p1
 rlt:rb<w.heap.size
section
variable {rb:Nat} {a:Option Addr} {cap:Nat} {ws:List W3} {w:World} {p1:Nat} {k:Int} {s:ByteArray} {w':World} {els:List A} {sa:Option Addr} {sc:Nat} {st:St2}
theorem SStem.plt (h:SStem rb a cap ws w p1 k s w' els sa sc st):p1<w'.heap.size:=(Array.getElem?_eq_some_iff.1 h.here).1
theorem SStem.on {w2:World} {st2:St2} (h:SStem rb a cap ws w p1 k s w' els sa sc st) (sp:Step rb w' w2) (r:Sd w2 rb a cap ws st2):SStem rb a cap ws w p1 k s w2 els sa sc st2:=by
 have hr:=h.rlt
 have hl:=h.lt
 refine ⟨sp.at h.here (by omega),sp.at h.res (by omega),h.own.kept sp (.inr fun e=>?_),sp.sitsL h.sits (fun q hq=>by have:=h.new.2 q hq;omega),h.new,h.apart,r,h.step.trans sp,hl,hr⟩
 have:=(h.own.lt rb e).1
 omega
theorem SStem.drew (h:SStem rb a cap ws w p1 k s w' els sa sc st):SStem rb a cap ws w p1 k s w'.drew els sa sc st:=h.on (Step.refl rb w').drew h.rd.drew
theorem SStem.push {w3 w4:World} {x:A} {st2:St2} {g c2:Nat} (h:SStem rb a cap ws w p1 k s w' els sa sc st) (sp:Step rb w' w3) (r:Sd w3 rb a cap ws st2) (hx:Sits w3 x) (hn:New w'.heap.size x) (cs:Array Value)
    (hown:w4.ownsRow (p1+1) 31 4 (.slice (some ⟨g,0,none⟩) (els.length+1) c2) (els.length+1) (xqQ els++x.cells)) (hgrow:(w3.alloc (.cells cs 31)).grownBy w4 (Value.slice sa els.length sc).ownBlock)
    (hat:(Value.slice sa els.length sc).ownBlock=some g∨g=w3.heap.size+1) :
    SStem rb a cap ws w p1 k s (w4.setCell ⟨p1,3,none⟩ (.slice (some ⟨g,0,none⟩) (els.length+1) c2)) (els++[x]) (some ⟨g,0,none⟩) c2 st2:=by
 have h3:=h.on sp r
 have hr:=h.rlt
 have hl:=h.lt
 have hp:=h3.plt
 have hp0:=h.plt
 have lx:=Sits.lt x hx
 have le:=SitsL.lt h3.sits
 have le0:=SitsL.lt h.sits
 have hol:=h.own.lt
 have hlen:(els++[x]).length=els.length+1:=by simp
 have hcl:xqQ (els++[x])=xqQ els++x.cells:=by rw [ziQ];simp [xqQ]
 -- what the append leaves
 have keep:∀ q,q<w3.heap.size→(∀ g',(Value.slice sa els.length sc).ownBlock=some g'→q≠g')→w4.heap[q]?=w3.heap[q]?:=fun q hq hne=>by
  rw [hgrow.block q (by simp;omega) (fun e=>hne q e.symm rfl),Lib.alloc_old _ _ _ hq]
 have gg:p1+1≤g:=by
  have:=(hown.lt g rfl).1
  exact this
 have set:∀ q,q≠p1→(w4.setCell ⟨p1,3,none⟩ (.slice (some ⟨g,0,none⟩) (els.length+1) c2)).heap[q]?=w4.heap[q]?:=fun q hq=>Below.heap_setCell _ _ _ _ hq
 have p1k:=keep p1 hp (fun g' e=>by have:=(hol g' e).1;omega)
 refine ⟨?_,?_,?_,?_,?_,?_,?_,?_,hl,hr⟩
 ·have:=heap_setCell_same w4 p1 3 _ 31 (.slice (some ⟨g,0,none⟩) (els.length+1) c2) (p1k.trans h3.here)
  rw [this,hlen];rfl
 ·rw [set _ (by omega),keep _ (by omega) (fun g' e=>by have:=(hol g' e).1;omega)]
  exact h3.res
 ·rw [hlen,hcl]
  exact hown.kept (row:=some p1) ⟨rfl,rfl,rfl,by simp [World.setCell],fun q _ hq=>set q (fun e=>hq (by rw [e]))⟩ (.inr fun e=>by simp [Value.ownBlock] at e;omega)
 ·refine zDQ (h3.sits.stay fun q hq=>?_) (Sits.stay x (fun q hq=>?_) hx)
  ·rw [set q (by have:=h.new.2 q hq;omega),keep q (le q hq) (fun g' e=>fun e2=>h.apart g' e (e2 ▸ hq))]
  ·rw [set q (by have:=hn.2 q hq;omega),keep q (lx q hq) (fun g' e=>by have:=(hol g' e).2;have:=hn.2 q hq;omega)]
 ·exact NewL.snoc h.new le0 hn (by omega)
 ·intro g' e hq
  rw [hlen] at e
  simp [Value.ownBlock] at e
  subst e
  rw [yeQ,zAQ,List.mem_append] at hq
  rcases hat with hat | hat
  ·rcases hq with hq | hq
   ·exact h.apart g hat hq
   ·have:=(hol g hat).2
    have:=hn.2 g hq
    omega
  ·rcases hq with hq | hq
   ·have:=le g hq;omega
   ·have:=lx g hq;omega
 ·refine Sd.setCell ?_ (show rb<p1 by omega) _
  refine (r.alloc (.cells cs 31)).keep ⟨hgrow.os,hgrow.tape,hgrow.output,hgrow.size,fun q hq=>hgrow.block q (by have:=r.lt;simp;omega) (fun e=>by have:=(hol q e.symm).1;omega)⟩
 ·have h4:Step rb w w4:=⟨hgrow.os.trans h3.step.os,hgrow.tape.trans h3.step.tape,hgrow.output.trans h3.step.output,by have:=hgrow.size;have:=h3.step.size;simp at *;omega,fun q hq hne=>by
    have:=h3.step.size
    rw [keep q (by omega) (fun g' e=>by have:=(hol g' e).1;omega)]
    exact h3.step.block q hq hne⟩
  exact h4.setCell (.inl (show w.heap.size≤p1 by omega)) _
theorem SStem.tree (h:SStem rb a cap ws w p1 k s w' els sa sc st) (hs:s.size≤maxLen) (hn:els.length≤maxLen):Sits w' (.node k s 0 sa sc els)∧New (w.heap.size+1) (.node k s 0 sa sc els):=by
 have hl:=h.lt
 rcases h.own.2 with ⟨e,h0⟩ | ⟨g,c,cur,e,hb,hg,h1,h2,h3,h4⟩
 ·have:els=[]:=List.eq_nil_of_length_eq_zero h0
  subst this
  exact ⟨Sits.leaf _ _ _ hs,New.leaf _ _ _ _ _ _⟩
 ·have ea:sa=some ⟨g,0,none⟩:=by simp at e;exact e.1
  subst ea
  refine ⟨Sits.node hs hn h.sits hg (fun i v hv=>?_),New.node (h.new.mono (by omega)) (by omega) (h.apart g rfl)⟩
  rw [← h4,List.getElem?_take] at hv
  split at hv
  ·simpa using hv
  ·cases hv
theorem SStem.start {w1:World} (hP:w1.heap[w.heap.size]?=some (.cells #[.int .i64 0,.string ⟨#[]⟩,.int .i64 0,.slice none 0 0] 31 (0,0))) (r:Sd w1 rb a cap ws st) (sp:Step rb w w1) (hr:rb<w.heap.size) (k:Int) (s:ByteArray) :
    SStem rb a cap ws w w1.heap.size k s (w1.alloc (.cells #[.int .i64 k,.string s,.int .i64 0,.slice none 0 0] 31)) [] none 0 st:=by
 have z1:w.heap.size<w1.heap.size:=(Array.getElem?_eq_some_iff.1 hP).1
 exact ⟨heap_alloc_new w1 _,(Lib.alloc_old _ _ _ z1).trans hP,World.ownsRow_nil _ _ _ _,trivial,⟨List.nodup_nil,fun b hb=>(by cases hb)⟩,fun g e=>(by cases e),r.alloc _,sp.alloc _,z1,hr⟩
theorem SStem.kind (h:SStem rb a cap ws w p1 k s w' els sa sc st) (k2:Int):SStem rb a cap ws w p1 k2 s (w'.setCell ⟨p1,0,none⟩ (.int .i64 k2)) els sa sc st:=by
 have hr:=h.rlt
 have hl:=h.lt
 have set:∀ q,q≠p1→(w'.setCell ⟨p1,0,none⟩ (.int .i64 k2)).heap[q]?=w'.heap[q]?:=fun q hq=>Below.heap_setCell _ _ _ _ hq
 refine ⟨?_,(set _ (by omega)).trans h.res,h.own.kept (row:=some p1) ⟨rfl,rfl,rfl,by simp [World.setCell],fun q _ hq=>set q (fun e=>hq (by rw [e]))⟩ (.inr fun e=>by have:=(h.own.lt p1 e).1;omega),h.sits.stay (fun q hq=>set q (by have:=h.new.2 q hq;omega)),h.new,h.apart,h.rd.setCell (show rb<p1 by omega) _,h.step.setCell (.inl (show w.heap.size≤p1 by omega)) _,hl,hr⟩
 have:=heap_setCell_same w' p1 0 _ 31 (.int .i64 k2) h.here
 rw [this];rfl
end
end Go.Proofs.YtocbgbkdlfkjjaaGreatDoor
