/- CONTRACT of the specification's l03Declared. -/
import Derived.Test.YtocbgbkdlfkjjaaGreatDoorMDa
import Derived.Test.YtocbgbkdlfkjjaaGreatDoorMCc
import Derived.Test.YtocbgbkdlfkjjaaGreatDoorMDi
import Derived.Test.YtocbgbkdlfkjjaaGreatDoorMCl
set_option maxRecDepth 100000
set_option maxHeartbeats 6400000
namespace Go.Proofs.YtocbgbkdlfkjjaaGreatDoor
open Go.RowKit
open Pl
theorem Tryz.info9s:(Tryz.prog.info? 9).map (fun i=>(i.zero,i.size,i.bytes))=some (some (.string ByteArray.empty),1,16):=by kernel_rfl
def strV (L:List ByteArray):List Value:=L.map Value.string
def OwnSt (w:World) (B:Nat) (v:Value) (L:List ByteArray):Prop:=w.ownsRow B 9 1 v L.length (strV L)
theorem OwnSt.at {w:World} {B:Nat} {a:Option Addr} {c:Nat} {L:List ByteArray} (h:OwnSt w B (.slice a L.length c) L):StrsAt w a L:=by
 rcases h.2 with ⟨e,h0⟩ | ⟨g,cap,cur,e,hb,hg,h1,h2,h3,h4⟩
 ·exact .inl (List.eq_nil_of_length_eq_zero h0)
 ·simp at e
  obtain ⟨rfl,rfl⟩:=e
  refine .inr ⟨g,0,rfl,fun i s hi=>?_⟩
  rw [Lib.cell_of_heap hg]
  have:(strV L)[i]?=some (.string s):=by unfold strV;rw [List.getElem?_map,hi];rfl
  rw [← h4,List.getElem?_take] at this
  split at this
  ·simpa using this
  ·cases this
theorem ownst_mono {w:World} {B B':Nat} {v:Value} {L:List ByteArray} (h:OwnSt w B v L) (hB:B'≤B):OwnSt w B' v L:=by
 refine ⟨h.1,?_⟩
 rcases h.2 with h2 | ⟨g,cap,cur,e,hb,r⟩
 ·exact .inl h2
 ·exact .inr ⟨g,cap,cur,e,Nat.le_trans hB hb,r⟩
theorem zxQ (k:Int) (s:ByteArray) (m kd:Int) (D:List T) (B:T) (a:Option Addr) (c:Nat) (w:World) (hn:D.length≤1000) (hk:Kids w 0 a (D++[B])) :
 Calls Tryz.prog 39 #[.agg #[.int .i64 k,.string s,.int .i64 m,.slice a (D.length+1) c],.int .i64 kd] w fun e w'=>∃ (ra:Option Addr) (rc:Nat),e=.returned (.slice ra (x5Q D kd).length rc)∧OwnSt w' w.heap.size (.slice ra (x5Q D kd).length rc) (x5Q D kd)∧Below w.heap.size w w':=by
 have B0:Below w.heap.size w (w.alloc (.cells #[.int .i64 k,.string s,.int .i64 m,.slice a (D.length+1) c] 31)):=(Below.refl _ _).alloc (Nat.le_refl _) _
 have HB:=xaQ B0
 obtain ⟨p0,p1,p2,p3⟩:=Four.new w k s m a (D.length+1) c 31
 obtain ⟨P,hP⟩:∃ q,w.heap.size=q:=⟨_,rfl⟩
 obtain ⟨w1,hw1⟩:∃ q,w.alloc (.cells #[.int .i64 k,.string s,.int .i64 m,.slice a (D.length+1) c] 31)=q:=⟨_,rfl⟩
 have HK:=xaQ (hk.below B0)
 rw [hw1] at HB HK p0 p1 p2 p3
 rw [hP] at p0 p1 p2 p3
 have HF:=xaQ (show Four w1 P k s m a (D.length+1) c from ⟨p0,p1,p2,p3⟩)
 obtain ⟨i0,hi0,hz0⟩:=Option.map_eq_some_iff.1 Tryz.info9s
 simp only [Prod.mk.injEq] at hz0
 obtain ⟨hz1,hz2,hz3⟩:=hz0
 have HI:=xaQ (show Tryz.prog.info? 9=some i0∧i0.zero=some (.string ByteArray.empty)∧i0.size=1∧i0.bytes=16 from ⟨hi0,hz1,hz2,hz3⟩)
 clear B0 hk hi0 hz1 hz2 hz3
 go_enter Tryz.func39,Tryz.ntmps39
 have HO0:=xaQ (World.ownsRow_made (e:=9) (size:=1) (base:=w1.heap.size) w1 #[] 0 (Nat.le_refl _) (Nat.zero_le _) rfl)
 have HB0:=xaQ ((Below.refl w1.heap.size w1).alloc (Nat.le_refl _) (.cells #[] 9))
 go_wp2
 clear hw1 hP
 go_loopg [5,6] D.length (fun g s5 s6 wr=>∃ (i:Nat) (ra:Option Addr) (rc:Nat),i+g=D.length∧s6=.int .i64 i∧s5=.slice ra (x5Q (D.take i) kd).length rc∧OwnSt wr w1.heap.size (.slice ra (x5Q (D.take i) kd).length rc) (x5Q (D.take i) kd)∧Below w1.heap.size w1 wr)
 case atStart=>exact ⟨0,_,_,by omega,rfl,rfl,HO0.out,HB0.out⟩
 case round =>
  obtain ⟨i,ra,rc,hig,rfl,rfl,hos,hbel⟩:=hrel
  have HOS:=xaQ hos
  have HBL:=xaQ hbel
  obtain ⟨p0,p1,p2,p3⟩:=HF.out.below hbel
  have hnl:(x5Q (D.take i) kd).length≤1000:=by
   have:=cntK_le (D.take i) kd
   unfold cntK at this
   rw [List.length_take] at this
   omega
  clear hos HO0 HB0
  by_cases hil:i<D.length
  ·obtain ⟨x,hx⟩:∃ x,D[i]?=some x:=⟨_,List.getElem?_eq_getElem hil⟩
   have HNS:Hid (x5Q (D.take (i+1)) kd=x5Q (D.take i) kd++(if xdQ x=kd then [yHQ x] else [])):=xaQ (by rw [x4Q hx,namesD_snoc])
   have hx2:(D++[B])[i]?=some x:=by rw [List.getElem?_append_left hil];exact hx
   obtain ⟨xk,xs,xm,xkk⟩:=x
   obtain ⟨b,o,xa,xc,rfl,c0,c1,c2,c3,_,_,_⟩:=yqQ HK.out hbel hx2
   have j0:(0:Int)≤(i:Int):=by omega
   have j1:(i:Int)<(D.length:Int):=by omega
   have j2:(i:Int)<(D.length:Int)+1:=by omega
   obtain ⟨g1,rfl⟩:∃ q,gk=q+1:=⟨gk - 1,by omega⟩
   have w3:IntKind.i64.wrap ((i:Int)+1)=(i:Int)+1:=IntWalk.i64_in _ (by omega)
   have hz1:=hbel.size
   clear hx hx2 hbel
   obtain ⟨NL,hNL⟩:∃ q,x5Q (D.take i) kd=q:=⟨_,rfl⟩
   rw [hNL] at HOS HNS hnl
   rw [hNL]
   clear hNL
   by_cases hkd:xk=kd
   ·subst hkd
    rw [show (if xdQ (T.node xk xs xm xkk)=xk then [yHQ (T.node xk xs xm xkk)] else [])=[xs] from if_pos rfl] at HNS
    have OW:=xaQ (HOS.out.alloc (.cells #[.string xs] 9))
    go_wp2_with (first | (at_builtin;refine wpList_append_lies _ rfl _ _ _ rfl w1.heap.size 9 i0 _ 1 16 Tryz.underlying38 HI.out.1 HI.out.2.1 HI.out.2.2.1 HI.out.2.2.2 rfl (by decide) _ _ _ rfl OW.out ⟨wr.heap.size,0,none⟩ 1 1 [.string xs] rfl rfl (World.news_of_block (heap_alloc_new wr _)) (fun u hu=>by simp at hu;rcases hu with rfl;rfl) (by decide) (by unfold maxLen;omega) (by omega) (by simp;omega) (wr.heap.size+1) (by simp) ?_;intro g cq w4 hown hgrow hat hlt4) | go_in)
    have HOW:Hid (OwnSt w4 w1.heap.size (.slice (some ⟨g,0,none⟩) (NL++[xs]).length cq) (NL++[xs])):=xaQ (by
     unfold OwnSt strV
     rw [List.length_append,List.map_append]
     exact hown)
    have HB4:Hid (Below w1.heap.size w1 w4):=xaQ ((HBL.out.alloc hz1 (.cells #[.string xs] 9)).grown hgrow (Nat.le_trans hz1 (by simp)) (fun q e=>(HOS.out.lt q e).1))
    clear hown hgrow hat OW
    go_wp2
    go_roundg g1
    case rel=>exact ⟨i+1,_,_,by omega,by simp,by rw [HNS.out,List.length_append];rfl,by rw [HNS.out];exact HOW.out,HB4.out⟩
    case measure=>omega
   ·have hk0:(xk == kd)=false:=by simpa using hkd
    rw [show (if xdQ (T.node xk xs xm xkk)=kd then [yHQ (T.node xk xs xm xkk)] else [])=[] from if_neg hkd,List.append_nil] at HNS
    go_wp2
    go_roundg g1
    case rel=>exact ⟨i+1,ra,rc,by omega,by simp,by rw [HNS.out],by rw [HNS.out];exact HOS.out,HBL.out⟩
    case measure=>omega
  ·have hik:i=D.length:=by omega
   subst hik
   have j1:¬ (D.length:Int)<(D.length:Int):=by omega
   rw [List.take_length] at HOS ⊢
   go_wp2
   go_ret
   refine ⟨_,_,rfl,ownst_mono HOS.out HB.out.size,xbQ HB.out HBL.out⟩
theorem many_cnt {D:List T} (h:8<(x5Q D 31).length∨4<(x5Q D 32).length):manyD D=true:=by
 unfold manyD cntK
 rcases h with h | h <;> simp [h]
theorem many_num {D:List T} {t:T} (ht:t∈D) (h:60<numT t):manyD D=true:=by
 unfold manyD
 rw [Bool.or_eq_true,List.any_eq_true]
 exact .inr ⟨t,ht,by simpa using h⟩
theorem many_none {D:List T} (h1:¬ 8<(x5Q D 31).length) (h2:¬ 4<(x5Q D 32).length) (h3:∀ t∈D,¬ 60<numT t):manyD D=false:=by
 unfold manyD cntK
 rw [decide_eq_false h1,decide_eq_false h2,Bool.false_or,Bool.false_or,List.any_eq_false]
 exact fun t ht=>by simpa using h3 t ht
theorem wrg_some {p:Int→ByteArray→Bool} {D:List T} (h:∀ k s,badP (ycQ D) 7 k s=p k s) (B:T):wrg (badP (ycQ D) 7) B=wrg p B:=wrg_same h B
theorem sCheck_any (k:Int) (s:ByteArray) (m:Int) (kk:List T) (a:Option Addr) (c:Nat) (w:World) (hs:s.size≤maxLen) (hn:kk.length≤maxLen) (hcn:cnt (.node k s m kk)≤1048577) (hk:Kids w 0 a kk) :
 Calls Tryz.prog 11 #[.agg #[.int .i64 k,.string s,.int .i64 m,.slice a kk.length c]] w fun e w'=>e=.returned (.agg #[.int .i64 (trb (.node k s m kk)).1,.string (trb (.node k s m kk)).2])∧Below w.heap.size w w':=by
 have HOK:=xaQ (fun W (hW:Below w.heap.size w W)=>sProgOk_any k s m kk a c W hs hn hcn (hk.below hW))
 have B1:Below w.heap.size w ((w.alloc (.cells #[.int .i64 k,.string s,.int .i64 m,.slice a kk.length c] 31)).alloc (.cells #[.int .i64 0,.string ⟨#[]⟩] 27)):=((Below.refl w.heap.size w).alloc (Nat.le_refl _) _).alloc (by simp) _
 have F0:=Four.new w k s m a kk.length c 31
 have F1:=F0.below ((Below.refl _ _).alloc (Nat.le_refl _) (.cells #[.int .i64 0,.string ⟨#[]⟩] 27))
 have h0:=heap_alloc_new (w.alloc (.cells #[.int .i64 k,.string s,.int .i64 m,.slice a kk.length c] 31)) (.cells #[.int .i64 0,.string ⟨#[]⟩] 27)
 have hsz:(w.alloc (.cells #[.int .i64 k,.string s,.int .i64 m,.slice a kk.length c] 31)).heap.size=w.heap.size+1:=by simp
 rw [hsz] at h0
 obtain ⟨P,hP⟩:∃ q,w.heap.size=q:=⟨_,rfl⟩
 obtain ⟨w1,hw1⟩:∃ q,(w.alloc (.cells #[.int .i64 k,.string s,.int .i64 m,.slice a kk.length c] 31)).alloc (.cells #[.int .i64 0,.string ⟨#[]⟩] 27)=q:=⟨_,rfl⟩
 rw [hw1] at h0 F1 B1
 rw [hP] at h0 F1
 have HB:=xaQ B1
 have HFP:Hid (∀ W,Below w1.heap.size w1 W→Four W P k s m a kk.length c):=xaQ (fun W hW=>F1.below hW)
 obtain ⟨p0,p1,p2,p3⟩:=F1
 have HR:Hid (∀ W,Below w1.heap.size w1 W→W.heap[P+1]?=some (.cells #[.int .i64 0,.string ⟨#[]⟩] 27 (0,0))):=xaQ (fun W hW=>(hW.block (P+1) (xiQ h0)).trans h0)
 have HK:=xaQ (hk.below B1)
 have hP1:w.heap.size≤P+1:=by omega
 have HPL:=xaQ (xiQ h0)
 clear hk h0 B1
 cases hok:okP (.node k s m kk) with
 | false =>
  have HT:=xaQ (show trb (.node k s m kk)=(4,⟨#[]⟩) by unfold trb;rw [hok];rfl)
  rw [HT.out]
  rw [hok] at HOK
  go_enter Tryz.func11,Tryz.ntmps11
  go_wp2_with (go_at_call 38;refine (HOK.out _ HB.out).mono ?_;rintro e w2 ⟨rfl,hb2⟩;obtain ⟨z0,z1,z2,z3⟩:=zoQ (HR.out _ hb2))
  obtain ⟨q0,q1⟩:=putc2 (HR.out _ hb2) (.int .i64 4) (.string ⟨#[]⟩)
  exact bodyPost_ret (v:=.agg #[.int .i64 4,.string ⟨#[]⟩]) (by simp [results,Tryz.results11,go_sem,q0,q1]) rfl ⟨rfl,zWQ (xbQ HB.out hb2) hP1 _ _⟩
 | true =>
  obtain ⟨hk40,hcm,hfm⟩:=zNQ hok
  obtain rfl:k=40:=hk40
  obtain ⟨rfl,rfl,D,B,rfl,hD,hBk,hBf,hDf⟩:=zEQ hfm
  have hct:cnts (D++[B])≤499:=by simp only [cnt] at hcm;omega
  have hln:D.length≤498:=by
   have h1:=ywQ (D++[B])
   rw [List.length_append,List.length_singleton] at h1
   omega
  obtain ⟨PT,hPT⟩:∃ q,plnT (.node 40 ⟨#[]⟩ 0 (D++[B]))=q:=⟨_,rfl⟩
  have hPT2:T.node 40 ⟨#[]⟩ 0 (plnL (D++[B]))=PT:=by rw [← hPT];simp only [plnT]
  have HT:=xaQ (show trb (.node 40 ⟨#[]⟩ 0 (D++[B]))=trbB D B PT by unfold trb;rw [hok,hPT];simp [xXQ,lastT])
  rw [hok] at HOK
  rw [HT.out]
  have hlen:(D++[B]).length=D.length+1:=by simp
  rw [hlen] at HOK hw1 p3 HFP F0 hsz
  rw [hlen]
  have HD31:=xaQ (fun W (hW:Below w1.heap.size w1 W)=>zxQ 40 ⟨#[]⟩ 0 31 D B a c W (by omega) (HK.out.below hW))
  have HD32:=xaQ (fun W (hW:Below w1.heap.size w1 W)=>zxQ 40 ⟨#[]⟩ 0 32 D B a c W (by omega) (HK.out.below hW))
  have HPP:=xaQ (fun W (hW:Below w1.heap.size w1 W)=>sPlainProg_any ⟨#[]⟩ 0 D B hD hDf hBk hBf hct a c W (HK.out.below hW))
  rw [hPT2] at HPP
  have hpc:cnt PT≤4000:=by rw [← hPT];have:=(pln_cnt (.node 40 ⟨#[]⟩ 0 (D++[B]))).1;omega
  have HPC:=xaQ hpc
  obtain ⟨V,hV⟩:∃ q,x5Q D 31=q:=⟨_,rfl⟩
  obtain ⟨R,hRR⟩:∃ q,x5Q D 32=q:=⟨_,rfl⟩
  rw [hV] at HD31
  rw [hRR] at HD32
  have hVl:V.length≤1000:=by rw [← hV];have:=cntK_le D 31;unfold cntK at this;omega
  have hRl:R.length≤1000:=by rw [← hRR];have:=cntK_le D 32;unfold cntK at this;omega
  have HV:=xaQ hV
  have HRN:=xaQ hRR
  have HDK:=xaQ hD
  have HCT:=xaQ hct
  have HBB:=xaQ hBf
  clear hok hcm hfm hBk hBf hDf hct hPT hPT2 hpc hV hRR hD hcn hn hs hsz F0 hlen
  go_enter Tryz.func11,Tryz.ntmps11
  go_upto_region 3 with (go_at_call 38;refine (HOK.out _ HB.out).mono ?_;rintro e w2 ⟨rfl,hb2⟩)
  obtain ⟨r0,r1,r2,r3⟩:=HFP.out _ hb2
  go_upto_region 4 with (go_at_call 39;refine (HD31.out _ hb2).mono ?_;rintro e w3 ⟨va,vc,rfl,hov,hb3⟩)
  have bel3:=xbQ hb2 hb3
  obtain ⟨s0,s1,s2,s3⟩:=HFP.out _ bel3
  go_upto_region 5 with (go_at_call 39;refine (HD32.out _ bel3).mono ?_;rintro e w4 ⟨ra,rc,rfl,hor,hb4⟩)
  have bel4:=xbQ bel3 hb4
  have HVA:=xaQ (fun W (hW:Below w4.heap.size w4 W)=>(hov.at.below hb4).below hW)
  have HRA:=xaQ (fun W (hW:Below w4.heap.size w4 W)=>hor.at.below hW)
  have HB4:=xaQ bel4
  obtain ⟨z0,z1,z2,z3⟩:=zoQ (HR.out _ bel4)
  obtain ⟨u0,u1,u2,u3⟩:=HFP.out _ bel4
  clear hb2 hb3 hb4 hov hor bel3 bel4 p0 p1 p2 p3 r0 r1 r2 r3 s0 s1 s2 s3 HOK HD31 HD32 hw1 hP
  by_cases h8:8<V.length
  ·have h8':(8:Int)<(V.length:Int):=by omega
   have HM:=xaQ (many_cnt (D:=D) (.inl (by rw [HV.out];exact h8)))
   clear h8
   go_wp2
   have hTB:trbB D B PT=(3,⟨#[]⟩):=by unfold trbB;rw [HM.out];rfl
   obtain ⟨q0,q1⟩:=putc2 (HR.out _ HB4.out) (.int .i64 3) (.string ⟨#[]⟩)
   rw [hTB]
   exact bodyPost_ret (v:=.agg #[.int .i64 3,.string ⟨#[]⟩]) (by simp [results,Tryz.results11,go_sem,q0,q1]) rfl ⟨rfl,zWQ (xbQ HB.out HB4.out) hP1 _ _⟩
  have h8':¬ (8:Int)<(V.length:Int):=by omega
  by_cases h4:4<R.length
  ·have h4':(4:Int)<(R.length:Int):=by omega
   have HM:=xaQ (many_cnt (D:=D) (.inr (by rw [HRN.out];exact h4)))
   clear h4 h8
   go_wp2
   have hTB:trbB D B PT=(3,⟨#[]⟩):=by unfold trbB;rw [HM.out];rfl
   obtain ⟨q0,q1⟩:=putc2 (HR.out _ HB4.out) (.int .i64 3) (.string ⟨#[]⟩)
   rw [hTB]
   exact bodyPost_ret (v:=.agg #[.int .i64 3,.string ⟨#[]⟩]) (by simp [results,Tryz.results11,go_sem,q0,q1]) rfl ⟨rfl,zWQ (xbQ HB.out HB4.out) hP1 _ _⟩
  have h4':¬ (4:Int)<(R.length:Int):=by omega
  have H84:=xaQ (And.intro h8 h4)
  clear h8 h4
  go_wp2
  clear h8' h4'
  go_loopg [5] D.length (fun g s5 wr=>∃ i:Nat,i+g=D.length∧s5=.int .i64 i∧(∀ t∈D.take i,¬ 60<numT t)∧w4=wr)
  case atStart=>exact ⟨0,by omega,rfl,fun t h=>(by simp at h),rfl⟩
  case round =>
   obtain ⟨i,hig,rfl,hno,rfl⟩:=hrel
   have HNO:=xaQ hno
   clear hno
   by_cases hil:i<D.length
   ·obtain ⟨x,hx⟩:∃ x,D[i]?=some x:=⟨_,List.getElem?_eq_getElem hil⟩
    have hx2:(D++[B])[i]?=some x:=by rw [List.getElem?_append_left hil];exact hx
    have HX:=xaQ hx
    obtain ⟨xk,xs,xm,xkk⟩:=x
    obtain ⟨b,o,xa,xc,rfl,c0,c1,c2,c3,_,_,_⟩:=yqQ HK.out HB4.out hx2
    have i0:(0:Int)≤(i:Int):=by omega
    have i1:(i:Int)<(D.length:Int):=by omega
    have i2:(i:Int)<(D.length:Int)+1:=by omega
    clear hx hx2
    by_cases h60:60<xm
    ·have HM:=xaQ (many_num (List.mem_of_getElem? HX.out) h60)
     go_wp2
     have hTB:trbB D B PT=(3,⟨#[]⟩):=by unfold trbB;rw [HM.out];rfl
     obtain ⟨q0,q1⟩:=putc2 (HR.out _ HB4.out) (.int .i64 3) (.string ⟨#[]⟩)
     rw [hTB]
     exact bodyPost_ret (v:=.agg #[.int .i64 3,.string ⟨#[]⟩]) (by simp [results,Tryz.results11,go_sem,q0,q1]) rfl ⟨rfl,zWQ (xbQ HB.out HB4.out) hP1 _ _⟩
    ·obtain ⟨g1,rfl⟩:∃ q,gk=q+1:=⟨gk - 1,by omega⟩
     have w3:IntKind.i64.wrap ((i:Int)+1)=(i:Int)+1:=IntWalk.i64_in _ (by omega)
     have HN2:Hid (∀ t∈D.take (i+1),¬ 60<numT t):=xaQ (fun t ht=>by
      rw [x4Q HX.out] at ht
      rcases List.mem_append.1 ht with ht | ht
      ·exact HNO.out t ht
      ·rw [List.mem_singleton.1 ht];exact h60)
     go_wp2
     go_roundg g1
     case rel=>exact ⟨i+1,by omega,by simp,HN2.out,rfl⟩
     case measure=>omega
   have hik:i=D.length:=by omega
   subst hik
   have HMN:=xaQ (many_none (D:=D) (by rw [HV.out];exact H84.out.1) (by rw [HRN.out];exact H84.out.2) (by have:=HNO.out;rwa [List.take_length] at this))
   have j1:¬ (D.length:Int)<(D.length:Int):=by omega
   clear HNO
   go_wp2
   clear j1
   go_loopg [6,7] D.length (fun g s6 s7 wr=>∃ i:Nat,i+g=D.length∧s6=.int .i64 i∧zdQ [] D=zdQ (D.take i) (D.drop i)∧Below w4.heap.size w4 wr)
   case atStart=>exact ⟨0,by omega,rfl,rfl,Below.refl _ _⟩
   case round =>
    obtain ⟨i,hig,rfl,htw,hbel⟩:=hrel
    have HTW:=xaQ htw
    have HBL:=xaQ hbel
    have bel:=xbQ HB4.out hbel
    obtain ⟨u0,u1,u2,u3⟩:=HFP.out _ bel
    obtain ⟨z0,z1,z2,z3⟩:=zoQ (HR.out _ bel)
    clear htw hbel
    by_cases hil:i<D.length
    ·obtain ⟨x,hx⟩:∃ x,D[i]?=some x:=⟨_,List.getElem?_eq_getElem hil⟩
     have HX:=xaQ hx
     obtain ⟨xk,xs,xm,xkk⟩:=x
     have i0:(0:Int)≤(i:Int):=by omega
     have i1:(i:Int)<(D.length:Int):=by omega
     have i2:(i:Int)<(D.length:Int)+1:=by omega
     obtain ⟨g1,rfl⟩:∃ q,gk=q+1:=⟨gk - 1,by omega⟩
     have w3:IntKind.i64.wrap ((i:Int)+1)=(i:Int)+1:=IntWalk.i64_in _ (by omega)
     clear hx bel
     go_wp2
     go_loopg [7] i (fun g s7 wq=>∃ q:Nat,q+g=i∧s7=.int .i64 q∧(∀ t∈D.take q,yHQ t≠xs)∧Below w4.heap.size w4 wq)
     case atStart=>exact ⟨0,by omega,rfl,fun t h=>(by simp at h),HBL.out⟩
     case round =>
      obtain ⟨q,hqg,rfl,hno,hbel⟩:=hrel
      have HNO:=xaQ hno
      have HBQ:=xaQ hbel
      have bel:=xbQ HB4.out hbel
      obtain ⟨u0,u1,u2,u3⟩:=HFP.out _ bel
      obtain ⟨z0,z1,z2,z3⟩:=zoQ (HR.out _ bel)
      have HBE:=xaQ bel
      clear hno hbel
      by_cases hqi:q<i
      ·obtain ⟨y,hy⟩:∃ y,D[q]?=some y:=⟨_,List.getElem?_eq_getElem (by omega)⟩
       have HY:=xaQ hy
       have hx2:(D++[B])[i]?=some (.node xk xs xm xkk):=by rw [List.getElem?_append_left hil];exact HX.out
       have hy2:(D++[B])[q]?=some y:=by rw [List.getElem?_append_left (by omega)];exact hy
       obtain ⟨yk,ys,ym,ykk⟩:=y
       obtain ⟨b,o,xa,xc,rfl,c0,c1,c2,c3,_,_,_⟩:=yqQ HK.out bel hx2
       obtain ⟨b',o',ya,yc,hbo,d0,d1,d2,d3,_,_,_⟩:=yqQ HK.out bel hy2
       cases hbo
       have q0':(0:Int)≤(q:Int):=by omega
       have q1':(q:Int)<(i:Int):=by omega
       have q2':(q:Int)<(D.length:Int)+1:=by omega
       clear hy hx2 hy2 bel
       by_cases he:ys=xs
       ·subst he
        have HZ:Hid (ycQ (D.take i) ys≠0):=xaQ (fun e=>by
         have h:=(look_zero (dk_take HDK.out i) ys).1 e (.node yk ys ym ykk) (by
          refine List.mem_of_getElem? (i:=q) ?_
          rw [List.getElem?_take_of_lt hqi]
          exact HY.out)
         exact h rfl)
        have HT2:=xaQ (HTW.out.trans (twice_hit HX.out HZ.out))
        go_wp2_with fail
        go_quiet (fail)
        go_wp2
        have hTB:trbB D B PT=(6,ys):=by unfold trbB;rw [HMN.out,HT2.out];rfl
        obtain ⟨q0,q1⟩:=putc2 (HR.out _ (below_drewN HBE.out nq)) (.int .i64 6) (.string ys)
        rw [hTB]
        exact bodyPost_ret (v:=.agg #[.int .i64 6,.string ys]) (by simp [results,Tryz.results11,go_sem,q0,q1]) rfl ⟨rfl,zWQ (xbQ HB.out (below_drewN HBE.out nq)) hP1 _ _⟩
       ·have hne:(ys.toList == xs.toList)=false:=by rw [str_eq,decide_eq_false he]
        obtain ⟨g2,rfl⟩:∃ q,gk=q+1:=⟨gk - 1,by omega⟩
        have w5:IntKind.i64.wrap ((q:Int)+1)=(q:Int)+1:=IntWalk.i64_in _ (by omega)
        have HN2:Hid (∀ t∈D.take (q+1),yHQ t≠xs):=xaQ (fun t ht=>by
         rw [x4Q HY.out] at ht
         rcases List.mem_append.1 ht with ht | ht
         ·exact HNO.out t ht
         ·rw [List.mem_singleton.1 ht];exact he)
        have HE:=xaQ he
        clear he
        go_wp2_with fail
        go_quiet (fail)
        go_wp2
        go_roundg g2
        case rel=>exact ⟨q+1,by omega,by simp,HN2.out,below_drewN HBQ.out _⟩
        case measure=>omega
      have hqk:q=i:=by omega
      subst hqk
      have q1':¬ (q:Int)<(q:Int):=by omega
      have HT2:=xaQ (HTW.out.trans (twice_go HX.out ((look_zero (dk_take HDK.out q) xs).2 HNO.out)))
      clear bel
      go_wp2
      go_roundg g1
      case rel=>exact ⟨q+1,by omega,by simp,HT2.out,HBQ.out⟩
      case measure=>omega
    have hik:i=D.length:=by omega
    subst hik
    have j1:¬ (D.length:Int)<(D.length:Int):=by omega
    have j0:(0:Int)≤(D.length:Int):=by omega
    have j2:(D.length:Int)<(D.length:Int)+1:=by omega
    have htz:=HTW.out.trans (twice_end D)
    have HTZ:=xaQ htz
    have hap:ApartN D:=twice_apart (D:=[]) (by simpa using HDK.out) trivial htz
    have HBS:=xaQ (fun k s=>bad_same HDK.out hap k s)
    rw [HV.out,HRN.out] at HBS
    have hx2:(D++[B])[D.length]?=some B:=by rw [List.getElem?_append_right (Nat.le_refl _)];simp
    have hcb:=cnt_in (List.mem_of_getElem? hx2)
    have hcc:=HCT.out
    have h7e:=wrg_some (fun k s=>(HBS.out k s).1) B
    have h8e:=wrg_congr (fun k s=>(HBS.out k s).2) B
    have hW7:=sWrong_any V R 7 (.inl rfl) hVl hRl B
    have hW8:=sWrong_any V R 8 (.inr rfl) hVl hRl B
    obtain ⟨kb,sb,mb,kkb⟩:=B
    obtain ⟨b,o,xa,xc,rfl,c0,c1,c2,c3,_,_,hkb⟩:=yqQ HK.out bel hx2
    simp only [cnt] at hcb
    have hlk:=ywQ kkb
    have hkl:kkb.length≤1000:=by omega
    have HK9:=xaQ hkb
    have bel9:=bel
    have HBW:=xaQ bel
    have hwr:IntKind.i64.wrap (D.length:Int)=(D.length:Int):=IntWalk.i64_in _ (by omega)
    have HZN:=xaQ (fun W=>heap_alloc_new W (.cells #[.int .i64 kb,.string sb,.int .i64 mb,.slice xa kkb.length xc] 31))
    clear htz hap hx2 bel HTW hkb hcc
    go_upto_region 20 with fail
    go_upto_region 21 with fail
    have A5:Below wr.heap.size wr (wr.alloc (.cells #[.int .i64 kb,.string sb,.int .i64 mb,.slice xa kkb.length xc] 31)):=(Below.refl _ _).alloc (Nat.le_refl _) _
    have hZ5:=HZN.out wr
    obtain ⟨Z,hZ⟩:∃ q,wr.heap.size=q:=⟨_,rfl⟩
    obtain ⟨w5,hw5⟩:∃ q,wr.alloc (.cells #[.int .i64 kb,.string sb,.int .i64 mb,.slice xa kkb.length xc] 31)=q:=⟨_,rfl⟩
    rw [hw5] at A5 hZ5
    rw [hZ] at hZ5
    rw [hw5,hZ]
    have bel5:=xbQ HBL.out A5
    have hk5:=HK9.out.below A5
    have c7:=hW7 va ra xa vc rc xc w5 hkl hk5 (HVA.out _ bel5) (HRA.out _ bel5) (by have:=HCT.out;omega)
    have hZl:=xiQ hZ5
    have HZ5:=xaQ hZ5
    have HB5:=xaQ bel5
    have HK5:=xaQ hk5
    obtain ⟨d0,d1,d2,d3,_⟩:=xcQ hZ5
    rw [← h7e] at c7
    clear hw5 hZ A5 hZ5 hk5 bel5 hW7 h7e HZN c0 c1 c2 c3 u0 u1 u2 u3 z0 z1 z2 z3
    cases h7:wrg (badP (ycQ D) 7) (.node kb sb mb kkb) with
    | some nm =>
     rw [h7] at c7
     have H7:=xaQ h7
     have C7:=xaQ c7
     clear h7 c7 h8e hW8
     go_wp2_with (go_at_call 40;refine C7.out.mono ?_;rintro e w6 ⟨rfl,hb6⟩;simp only [wrT,Option.getD_some,Option.isSome_some];obtain ⟨z0,z1,z2,z3⟩:=zoQ (HR.out _ (xbQ (xbQ HB4.out HB5.out) hb6)))
     have hTB:trbB D (.node kb sb mb kkb) PT=(7,nm):=by unfold trbB;rw [HMN.out,HTZ.out];simp only [Bool.false_eq_true,if_false];rw [H7.out]
     obtain ⟨q0,q1⟩:=putc2 (HR.out _ (xbQ (xbQ HB4.out HB5.out) hb6)) (.int .i64 7) (.string nm)
     rw [hTB]
     exact bodyPost_ret (v:=.agg #[.int .i64 7,.string nm]) (by simp [results,Tryz.results11,go_sem,q0,q1]) rfl ⟨rfl,zWQ (xbQ HB.out (xbQ (xbQ HB4.out HB5.out) hb6)) hP1 _ _⟩
    | none =>
     rw [h7] at c7
     have h8e':=h8e h7
     have H7:=xaQ h7
     have C7:=xaQ c7
     clear h7 c7 h8e
     go_upto_region 24 with (go_at_call 40;refine C7.out.mono ?_;rintro e w6 ⟨rfl,hb6⟩;simp only [wrT,Option.getD_none,Option.isSome_none])
     have bel6:=xbQ HB5.out hb6
     have hZ6:=(hb6.block Z hZl).trans HZ5.out
     have c8:=hW8 va ra xa vc rc xc w6 hkl (HK5.out.below hb6) (HVA.out _ bel6) (HRA.out _ bel6) (by have:=HCT.out;omega)
     rw [← h8e'] at c8
     have HB6:=xaQ (xbQ HB4.out bel6)
     obtain ⟨e0,e1,e2,e3,_⟩:=xcQ hZ6
     clear bel6 hZ6 hb6 hW8 h8e' d0 d1 d2 d3 hZl
     cases h8:wrg (badP (ycQ D) 8) (.node kb sb mb kkb) with
     | some nm =>
      rw [h8] at c8
      have H8:=xaQ h8
      have C8:=xaQ c8
      clear h8 c8
      go_wp2_with (go_at_call 40;refine C8.out.mono ?_;rintro e w7 ⟨rfl,hb7⟩;simp only [wrT,Option.getD_some,Option.isSome_some];obtain ⟨z0,z1,z2,z3⟩:=zoQ (HR.out _ (xbQ HB6.out hb7)))
      have hTB:trbB D (.node kb sb mb kkb) PT=(8,nm):=by unfold trbB;rw [HMN.out,HTZ.out];simp only [Bool.false_eq_true,if_false];rw [H7.out];simp only;rw [H8.out]
      obtain ⟨q0,q1⟩:=putc2 (HR.out _ (xbQ HB6.out hb7)) (.int .i64 8) (.string nm)
      rw [hTB]
      exact bodyPost_ret (v:=.agg #[.int .i64 8,.string nm]) (by simp [results,Tryz.results11,go_sem,q0,q1]) rfl ⟨rfl,zWQ (xbQ HB.out (xbQ HB6.out hb7)) hP1 _ _⟩
     | none =>
      rw [h8] at c8
      have H8:=xaQ h8
      have C8:=xaQ c8
      clear h8 c8
      go_upto_region 27 with (go_at_call 40;refine C8.out.mono ?_;rintro e w7 ⟨rfl,hb7⟩;simp only [wrT,Option.getD_none,Option.isSome_none])
      have bel7:=xbQ HB6.out hb7
      obtain ⟨u0,u1,u2,u3⟩:=HFP.out _ bel7
      have HB7:=xaQ bel7
      clear hb7 bel7 e0 e1 e2 e3
      cases hop:okP PT with
      | false =>
       have HOP:=xaQ hop
       clear hop
       go_wp2_with (first | (go_at_call 41;refine (HPP.out _ HB7.out).mono ?_;rintro e w8 ⟨x,rfl,hxe,hxm,hb8⟩;obtain ⟨zk,zs,zm,za,zc,zkk⟩:=x;simp only [A.val];have hP8:=sProgOk_any zk zs zm (xmQ zkk) za zc w8 hxm.2.1 (by rw [xzQ];exact hxm.2.2) (by rw [show T.node zk zs zm (xmQ zkk)=PT from hxe];have:=HPC.out;omega) (Sits.lies _ hxm.tree.1 (fun _ _=>Nat.zero_le _));rw [xzQ,show T.node zk zs zm (xmQ zkk)=PT from hxe,HOP.out] at hP8;have HP8:=xaQ hP8;have HB8:=xaQ (xbQ HB7.out hb8);clear hP8 hxe hxm hb8) | (go_at_call 38;refine HP8.out.mono ?_;rintro e w9 ⟨rfl,hb9⟩;obtain ⟨z0,z1,z2,z3⟩:=zoQ (HR.out _ (xbQ HB8.out hb9))))
       have hTB:trbB D (.node kb sb mb kkb) PT=(5,⟨#[]⟩):=by unfold trbB;rw [HMN.out,HTZ.out];simp only [Bool.false_eq_true,if_false];rw [H7.out];simp only;rw [H8.out];simp only;rw [HOP.out];rfl
       obtain ⟨q0,q1⟩:=putc2 (HR.out _ (xbQ HB8.out hb9)) (.int .i64 5) (.string ⟨#[]⟩)
       rw [hTB]
       exact bodyPost_ret (v:=.agg #[.int .i64 5,.string ⟨#[]⟩]) (by simp [results,Tryz.results11,go_sem,q0,q1]) rfl ⟨rfl,zWQ (xbQ HB.out (xbQ HB8.out hb9)) hP1 _ _⟩
      | true =>
       have HOP:=xaQ hop
       clear hop
       go_wp2_with (first | (go_at_call 41;refine (HPP.out _ HB7.out).mono ?_;rintro e w8 ⟨x,rfl,hxe,hxm,hb8⟩;obtain ⟨zk,zs,zm,za,zc,zkk⟩:=x;simp only [A.val];have hP8:=sProgOk_any zk zs zm (xmQ zkk) za zc w8 hxm.2.1 (by rw [xzQ];exact hxm.2.2) (by rw [show T.node zk zs zm (xmQ zkk)=PT from hxe];have:=HPC.out;omega) (Sits.lies _ hxm.tree.1 (fun _ _=>Nat.zero_le _));rw [xzQ,show T.node zk zs zm (xmQ zkk)=PT from hxe,HOP.out] at hP8;have HP8:=xaQ hP8;have HB8:=xaQ (xbQ HB7.out hb8);clear hP8 hxe hxm hb8) | (go_at_call 38;refine HP8.out.mono ?_;rintro e w9 ⟨rfl,hb9⟩;obtain ⟨z0,z1,z2,z3⟩:=zoQ (HR.out _ (xbQ HB8.out hb9))))
       have hTB:trbB D (.node kb sb mb kkb) PT=(0,⟨#[]⟩):=by unfold trbB;rw [HMN.out,HTZ.out];simp only [Bool.false_eq_true,if_false];rw [H7.out];simp only;rw [H8.out];simp only;rw [HOP.out];rfl
       obtain ⟨q0,q1⟩:=putc2 (HR.out _ (xbQ HB8.out hb9)) (.int .i64 0) (.string ⟨#[]⟩)
       rw [hTB]
       exact bodyPost_ret (v:=.agg #[.int .i64 0,.string ⟨#[]⟩]) (by simp [results,Tryz.results11,go_sem,q0,q1]) rfl ⟨rfl,zWQ (xbQ HB.out (xbQ HB8.out hb9)) hP1 _ _⟩
end Go.Proofs.YtocbgbkdlfkjjaaGreatDoor
