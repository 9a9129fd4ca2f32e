/- CONTRACT of the specification's l03Plain at a statement that is no block and no for. -/
import Derived.Test.YtocbgbkdlfkjjaaGreatDoorMDe
set_option maxRecDepth 100000
namespace Go.Proofs.YtocbgbkdlfkjjaaGreatDoor
open Go.RowKit
open Pl
theorem one_of {ys:List A} {t:T} (h:xmQ ys=[t]):∃ y,ys=[y]∧y.erase=t:=by
 match ys,h with
 | [y],h=>exact ⟨y,rfl,by simpa [xmQ] using h⟩
 | y :: z :: r,h=>simp [xmQ] at h
set_option maxHeartbeats 6400000 in
theorem plainS_other (k:Int) (s:ByteArray) (m:Int) (kk:List T) (h26:k≠26) (h30:k≠30) (IH:∀ t∈kk,PlainS t):PlainS (.node k s m kk):=by
 intro hk1 hk2 hf hc a cc w hk
 have hs:=yLQ (xnQ hf).1
 have B1:Below w.heap.size w (w.alloc (.cells #[.int .i64 k,.string s,.int .i64 m,.slice a kk.length cc] 31)):=(Below.refl w.heap.size w).alloc (Nat.le_refl _) _
 have F1:=Four.new w k s m a kk.length cc 31
 obtain ⟨P,hP⟩:∃ q,w.heap.size=q:=⟨_,rfl⟩
 obtain ⟨w1,hw1⟩:∃ q,w.alloc (.cells #[.int .i64 k,.string s,.int .i64 m,.slice a kk.length cc] 31)=q:=⟨_,rfl⟩
 rw [hw1] at F1 B1
 rw [hP] at F1
 have HFP:Hid (∀ W,Below w1.heap.size w1 W→Four W P k s m a kk.length cc):=xaQ (fun W hW=>F1.below hW)
 obtain ⟨p0,p1,p2,p3⟩:=F1
 have h0:=heap_alloc_new w1 (.cells #[.int .i64 k,.string s,.int .i64 m,.slice none 0 0] 31)
 have B2:Below w1.heap.size w1 (w1.alloc (.cells #[.int .i64 k,.string s,.int .i64 m,.slice none 0 0] 31)):=(Below.refl _ _).alloc (Nat.le_refl _) _
 obtain ⟨q0,q1,q2,q3⟩:=HFP.out _ B2
 obtain ⟨X,hX⟩:∃ q,w1.heap.size=q:=⟨_,rfl⟩
 obtain ⟨w2,hw2⟩:∃ q,w1.alloc (.cells #[.int .i64 k,.string s,.int .i64 m,.slice none 0 0] 31)=q:=⟨_,rfl⟩
 rw [hw2] at h0 B2
 rw [hX] at h0
 have HBX:=xaQ B2
 have HX0:=xaQ h0
 have HK:=xaQ (hk.below B1)
 have HB:=xaQ B1
 have HXE:=xaQ hX
 obtain ⟨i0,hi0,hz0⟩:=Option.map_eq_some_iff.1 Tryz.info31
 simp only [Prod.mk.injEq] at hz0
 obtain ⟨hz1,hz2,hz3⟩:=hz0
 have HI:=xaQ (show Tryz.prog.info? 31=some i0∧i0.zero=some (.agg #[.int .i64 0,.string ByteArray.empty,.int .i64 0,.slice none 0 0])∧i0.size=4∧i0.bytes=56 from ⟨hi0,hz1,hz2,hz3⟩)
 clear hi0 hz1 hz2 hz3
 obtain ⟨B0,hB0⟩:∃ q,w2.heap.size=q:=⟨_,rfl⟩
 have hXB:X<B0:=by rw [← hB0];exact xiQ h0
 have HB0:=xaQ hB0
 have HIH:=xaQ IH
 have HFM:=xaQ hf
 have hcs:cnts kk≤499:=by simp only [cnt] at hc;omega
 have HCT:=xaQ hcs
 have hlk:=ywQ kk
 have HOK:=xaQ (fun t ht=>other_kid (t:=t) hf hk1 hk2 h26 h30 ht)
 have k26:(k == 26)=false:=by simpa using h26
 have k30:(k == 30)=false:=by simpa using h30
 clear IH hf hc hk B1 B2 h0 hB0 hk1 hk2
 have HW2:=xaQ hw2
 have H26:=xaQ h26
 clear hw2 h26 h30
 go_enter Tryz.func68,Tryz.ntmps68
 go_wp2
 first | rw [HW2.out] | skip
 clear hw1 hP HW2 hX p0 p1 p2 p3 q0 q1 q2 q3 k26 k30
 go_loopg [6] kk.length (fun g s6 wr=>∃ (i:Nat) (els:List A) (sa:Option Addr) (sc:Nat),i+g=kk.length∧s6=.int .i64 i∧OwnA wr B0 (.slice sa els.length sc) els∧xmQ els=plnL (kk.take i)∧wr.heap[X]?=some (.cells #[.int .i64 k,.string s,.int .i64 m,.slice sa els.length sc] 31 (0,0))∧Below w1.heap.size w1 wr∧B0≤wr.heap.size)
 case atStart=>exact ⟨0,[],none,0,by omega,rfl,OwnA.nil _ _,rfl,HX0.out,HBX.out,Nat.le_of_eq HB0.out.symm⟩
 case round =>
  obtain ⟨i,els,sa,sc,hig,rfl,hoa,her,hX,hbel,hBw⟩:=hrel
  have HOA:=xaQ hoa
  have HER:=xaQ her
  have HXW:=xaQ hX
  have HBW:=xaQ hbel
  obtain ⟨q0,q1,q2,q3⟩:=HFP.out _ hbel
  have hel:els.length≤3992:=by
   have h1:=plnL_len kk i
   rw [← her,xzQ] at h1
   have:=HCT.out
   omega
  clear hoa her
  by_cases hil:i<kk.length
  ·obtain ⟨x,hx⟩:∃ x,kk[i]?=some x:=⟨_,List.getElem?_eq_getElem hil⟩
   have hmem:=List.mem_of_getElem? hx
   have hp1:=HIH.out x hmem
   have hfx:=zaQ HFM.out hmem
   have hok:=HOK.out x hmem
   have hcx:cnt x≤500:=by have:=cnt_in hmem;have:=HCT.out;omega
   have HPT:=xaQ (plnL_take hx)
   obtain ⟨xk,xs,xm,xkk⟩:=x
   obtain ⟨b,o,xa,xc,rfl,c0,c1,c2,c3,hxs,hxn,hxk⟩:=yqQ HK.out hbel hx
   have HKX:=xaQ hxk
   have i0':(0:Int)≤(i:Int):=by omega
   have i1:(i:Int)<(kk.length:Int):=by omega
   obtain ⟨g1,rfl⟩:∃ q,gk=q+1:=⟨gk - 1,by omega⟩
   have w3:IntKind.i64.wrap ((i:Int)+1)=(i:Int)+1:=IntWalk.i64_in _ (by omega)
   obtain ⟨d0,d1,d2,d3,d4,d5,d6,d7⟩:=xcQ hX
   have HXN:=xaQ (show wr.drew.heap[X]?=_ from hX)
   have hpn:X<wr.drew.heap.size:=xiQ hX
   have HB9:Hid (Below wr.heap.size wr wr.drew):=xaQ (Below.refl _ _).drew
   clear hx hbel hX hxn hxk
   by_cases h30:xk=30
   ·subst h30
    have HCL:=xaQ (fun W (hW:Below wr.heap.size wr W)=>hp1 (by decide) (by decide) hfx hcx xa xc W (HKX.out.below hW))
    have HPK:=xaQ (yEQ (t:=.node 30 xs xm xkk) (by show (30:Int)≠26;decide))
    rw [HPK.out] at HCL
    clear hp1 hfx hok hcx hxs
    go_wp2_with fail
    go_region_law (first | (go_simp;go_at_call 68;refine (HCL.out _ HB9.out).mono ?_;rintro e wn ⟨ys,ya,yc,rfl,hye,hyo,hym,hbn⟩;obtain ⟨x1,rfl,hxe⟩:=one_of hye;have hxm:=hym _ rfl;obtain ⟨zk,zs,zm,za,zc,zkk⟩:=x1;simp only [List.length_cons,List.length_nil,Nat.zero_add] at hyo ⊢;obtain ⟨gy,rfl,hrow⟩:=OwnA.one hyo;obtain ⟨r0,r1,r2,r3⟩:=hrow _ (Below.refl _ _);have HXN:=xaQ ((hbn.block X hpn).trans HXN.out);have HB9:=xaQ (xbQ HB9.out hbn);have hpn:=xiQ HXN.out;obtain ⟨e0,e1,e2,e3,e4,e5,e6,e7⟩:=xcQ HXN.out;have OA:=xaQ (HOA.out.below HB9.out);have OW:=xaQ (OA.out.own.alloc (.cells #[.int .i64 zk,.string zs,.int .i64 zm,.slice za zkk.length zc] 31));have HM1:=xaQ (And.intro hxe hxm);clear hxe hxm hbn hye hyo hym hrow) | (refine step_append_lies _ (by rfl) _ _ _ (by rfl) B0 31 i0 _ 4 56 Tryz.underlying29 HI.out.1 HI.out.2.1 HI.out.2.2.1 HI.out.2.2.2 rfl (by decide) _ _ _ (by rfl) OW.out ⟨wn.heap.size,0,none⟩ 1 1 [.int .i64 zk,.string zs,.int .i64 zm,.slice za zkk.length zc] (by rfl) (by rfl) (World.news_of_block (heap_alloc_new wn _)) (fun u hu=>by simp at hu;rcases hu with rfl | rfl | rfl | rfl <;> rfl) (by decide) (by unfold maxLen;omega) (by omega) (by have:=HB9.out.size;simp;omega) (wn.heap.size+1) (by simp) ?_;intro g cq w4 hown hgrow hat hlt4;have K4:=(hgrow.block X (by simp;omega) (fun e=>by have:=(OA.out.own.lt X e.symm).1;omega)).trans ((Lib.alloc_old wn _ _ hpn).trans HXN.out);have HAP:=xaQ (And.intro hown (And.intro hgrow hat));clear e0 e1 e2 e3 e4 e5 e6 e7;obtain ⟨l0,l1,l2,l3,l4,l5,l6,l7⟩:=xcQ K4;clear K4 hown hgrow hat OW))
    all_goals
     have hmt:=HM1.out.2.tree
     have HD:=xaQ (grow_done (w1:=w1) HOA.out HXW.out hXB hBw (Nat.le_of_eq HXE.out) HBW.out HB9.out (x1Q hmt.1) (NewL.one hmt.2.1) HAP.out.1 HAP.out.2.1 HAP.out.2.2 rfl)
     have HEE:Hid (xmQ (els++[A.node zk zs zm za zc zkk])=plnL (kk.take (i+1))):=xaQ (by rw [xvQ,HER.out,HPT.out,HPK.out];simp only [xmQ,HM1.out.1])
     go_wp2
     go_roundg g1
     case rel=>exact ⟨i+1,_,_,_,by omega,by simp,HD.out.1,HEE.out,HD.out.2.1,HD.out.2.2.1,HD.out.2.2.2⟩
     case measure=>omega
   ·have hk30:(xk == 30)=false:=by simpa using h30
    have HPK:=xaQ (hok.resolve_left h30)
    have HCL:=xaQ (fun W (hW:Below wr.heap.size wr W)=>sCopy_any (.node xk xs xm xkk) hxs (by simp only [cnt] at hcx;omega) xa xc W (HKX.out.below hW))
    clear hp1 hfx hok hcx hxs h30
    go_wp2_with fail
    go_region_law (first | (go_simp;go_at_call 67;refine (HCL.out _ HB9.out).mono ?_;rintro e wn ⟨x1,rfl,hxe,hxm,hbn⟩;obtain ⟨zk,zs,zm,za,zc,zkk⟩:=x1;simp only [A.val];have HXN:=xaQ ((hbn.block X hpn).trans HXN.out);have HB9:=xaQ (xbQ HB9.out hbn);have hpn:=xiQ HXN.out;obtain ⟨e0,e1,e2,e3,e4,e5,e6,e7⟩:=xcQ HXN.out;have OA:=xaQ (HOA.out.below HB9.out);have OW:=xaQ (OA.out.own.alloc (.cells #[.int .i64 zk,.string zs,.int .i64 zm,.slice za zkk.length zc] 31));have HM1:=xaQ (And.intro hxe hxm);clear hxe hxm hbn) | (refine step_append_lies _ (by rfl) _ _ _ (by rfl) B0 31 i0 _ 4 56 Tryz.underlying29 HI.out.1 HI.out.2.1 HI.out.2.2.1 HI.out.2.2.2 rfl (by decide) _ _ _ (by rfl) OW.out ⟨wn.heap.size,0,none⟩ 1 1 [.int .i64 zk,.string zs,.int .i64 zm,.slice za zkk.length zc] (by rfl) (by rfl) (World.news_of_block (heap_alloc_new wn _)) (fun u hu=>by simp at hu;rcases hu with rfl | rfl | rfl | rfl <;> rfl) (by decide) (by unfold maxLen;omega) (by omega) (by have:=HB9.out.size;simp;omega) (wn.heap.size+1) (by simp) ?_;intro g cq w4 hown hgrow hat hlt4;have K4:=(hgrow.block X (by simp;omega) (fun e=>by have:=(OA.out.own.lt X e.symm).1;omega)).trans ((Lib.alloc_old wn _ _ hpn).trans HXN.out);have HAP:=xaQ (And.intro hown (And.intro hgrow hat));clear e0 e1 e2 e3 e4 e5 e6 e7;obtain ⟨l0,l1,l2,l3,l4,l5,l6,l7⟩:=xcQ K4;clear K4 hown hgrow hat OW))
    all_goals
     have hmt:=HM1.out.2.tree
     have HD:=xaQ (grow_done (w1:=w1) HOA.out HXW.out hXB hBw (Nat.le_of_eq HXE.out) HBW.out HB9.out (x1Q hmt.1) (NewL.one hmt.2.1) HAP.out.1 HAP.out.2.1 HAP.out.2.2 rfl)
     have HEE:Hid (xmQ (els++[A.node zk zs zm za zc zkk])=plnL (kk.take (i+1))):=xaQ (by rw [xvQ,HER.out,HPT.out,HPK.out];simp only [xmQ,HM1.out.1])
     go_wp2
     go_roundg g1
     case rel=>exact ⟨i+1,_,_,_,by omega,by simp,HD.out.1,HEE.out,HD.out.2.1,HD.out.2.2.1,HD.out.2.2.2⟩
     case measure=>omega
  ·have hik:i=kk.length:=by omega
   subst hik
   have i1:¬ (kk.length:Int)<(kk.length:Int):=by omega
   obtain ⟨d0,d1,d2,d3,d4,d5,d6,d7⟩:=xcQ hX
   have HEE:Hid (xmQ els=plnL kk):=xaQ (by rw [HER.out,List.take_length])
   have hb1:=HBW.out.size
   clear hX hbel
   go_wp2
   have hm:(A.node k s m sa sc els).mine wr B0:=⟨HOA.out,by unfold maxLen;omega,by unfold maxLen;omega⟩
   have hA:Below wr.heap.size wr (wr.alloc (.cells (xqQ [A.node k s m sa sc els]).toArray 31)):=(Below.refl _ _).alloc (Nat.le_refl _) _
   have hb0:=HB.out.size
   have hme:=HXE.out
   refine bodyPost_ret (v:=.slice (some ⟨wr.heap.size,0,none⟩) 1 1) (by simp [results,Tryz.results68,go_sem]) rfl ⟨[A.node k s m sa sc els],_,_,rfl,?_,?_,?_,?_⟩
   ·rw [yEQ (t:=.node k s m kk) H26.out]
    simp [xmQ,A.erase,HEE.out,plnT]
   ·exact mkOne (x1Q hm.tree.1) hA (heap_alloc_new _ _) (Nat.le_refl _) (NewL.one (hm.tree.2.1.mono (by omega))) (by omega) (by simp [maxLen])
   ·intro x e
    cases e
    exact (hm.below hA).mono (by omega)
   ·have b8:=xbQ HB.out HBW.out
    exact b8.alloc b8.size _
end Go.Proofs.YtocbgbkdlfkjjaaGreatDoor
