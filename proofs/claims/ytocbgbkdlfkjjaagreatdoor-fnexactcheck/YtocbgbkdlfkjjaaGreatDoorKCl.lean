/-
  CONTRACT of the program's Check.
-/
import Derived.Test.YtocbgbkdlfkjjaaGreatDoorKCj
import Derived.Test.YtocbgbkdlfkjjaaGreatDoorKCi
namespace Go.Proofs.YtocbgbkdlfkjjaaGreatDoor
open Go.RowKit
open Pl
theorem wrg_size {p:Int→ByteArray→Bool} (t:T):xeQ t=true→∀ s,wrg p t=some s→s.size≤8:=by
 refine T.induct (P:=fun t=>xeQ t=true→∀ s,wrg p t=some s→s.size≤8) ?_ t
 intro k s m kk ih hf x hx
 simp only [wrg] at hx
 split at hx
 ·cases hx;exact ySQ (xpQ hf).1
 ·have hkid:∀ t∈kk,xeQ t=true:=fun t ht=>formed_kid hf ht
  clear hf
  induction kk with
  | nil=>simp [wrgL] at hx
  | cons y r ih2 =>
   simp only [wrgL] at hx
   cases hy:wrg p y with
   | some z =>
    rw [hy] at hx
    simp at hx
    subst hx
    exact ih y (by simp) (hkid y (by simp)) _ hy
   | none =>
    rw [hy] at hx
    exact ih2 (fun t ht=>ih t (by simp [ht])) (by simpa using hx) (fun t ht=>hkid t (by simp [ht]))
theorem twice_mem {D r:List T} {s:ByteArray}:twiceD D r=some s→∃ t∈r,nameT t=s:=by
 induction r generalizing D with
 | nil=>intro h;simp [twiceD] at h
 | cons x r ih =>
  intro h
  simp only [twiceD] at h
  split at h
  ·obtain ⟨t,h1,h2⟩:=ih h;exact ⟨t,by simp [h1],h2⟩
  ·simp at h;exact ⟨x,by simp,h⟩
/-- A name that is told is short; none is told where nothing is wrong. -/
theorem trb_name (t:T):(trb t).2.size≤8∧((trb t).1=0→(trb t).2=⟨#[]⟩):=by
 unfold trb
 split
 ·rename_i hok
  obtain ⟨h40,_,hf⟩:=ok_formed hok
  obtain ⟨k,s,m,kk⟩:=t
  obtain rfl:k=40:=h40
  obtain ⟨_,_,D,B,rfl,hD,hBk,hBf,hDf⟩:=prog_parts hf
  have e1:(kidsOf (.node 40 s m (D++[B]))).dropLast=D:=by simp [kidsOf]
  have e2:lastT (kidsOf (.node 40 s m (D++[B])))=B:=by simp [kidsOf,lastT]
  rw [e1,e2]
  unfold trbB
  split
  ·exact ⟨by decide,fun h=>rfl⟩
  ·split
   ·rename_i s' h
    obtain ⟨t,ht,rfl⟩:=twice_mem h
    have:=hDf t ht
    obtain ⟨k',s',m',kk'⟩:=t
    exact ⟨ySQ (xpQ this).1,fun h=>by simp at h⟩
   ·split
    ·rename_i s' h
     exact ⟨wrg_size B hBf _ h,fun h=>by simp at h⟩
    ·split
     ·rename_i s' h
      exact ⟨wrg_size B hBf _ h,fun h=>by simp at h⟩
     ·split
      ·exact ⟨by decide,fun _=>rfl⟩
      ·exact ⟨by decide,fun _=>rfl⟩
 ·exact ⟨by decide,fun _=>rfl⟩
theorem twoc_of {w:World} {b e:Nat} {v0 v1:Value} (h:w.heap[b]?=some (.cells #[v0,v1] e (0,0))):w.cell? ⟨b,0,none⟩=some v0∧w.cell? ⟨b,1,none⟩=some v1∧w.frozen? ⟨b,0,none⟩=false∧w.frozen? ⟨b,1,none⟩=false :=
 ⟨by rw [Lib.cell_of_heap h];rfl,by rw [Lib.cell_of_heap h];rfl,Lib.frozen_of_heap h 0,Lib.frozen_of_heap h 1⟩
theorem belowc2 {B:Nat} {a b:World} (h:Below B a b) {p:Nat} (hp:B≤p) (v0 v1:Value):Below B a ((b.setCell ⟨p,0,none⟩ v0).setCell ⟨p,1,none⟩ v1) :=
 (h.setCell (p:=⟨p,0,none⟩) hp _).setCell (p:=⟨p,1,none⟩) hp _
theorem putc2 {w:World} {p e:Nat} {u0 u1:Value} (h:w.heap[p]?=some (.cells #[u0,u1] e (0,0))) (v0 v1:Value):((w.setCell ⟨p,0,none⟩ v0).setCell ⟨p,1,none⟩ v1).cell? ⟨p,0,none⟩=some v0∧((w.setCell ⟨p,0,none⟩ v0).setCell ⟨p,1,none⟩ v1).cell? ⟨p,1,none⟩=some v1:=by
 have h2:((w.setCell ⟨p,0,none⟩ v0).setCell ⟨p,1,none⟩ v1).heap[p]?=some (.cells #[v0,v1] e (0,0)):=by
  rw [heap_setCell_same _ p 1 _ e _ (heap_setCell_same _ p 0 _ e _ h)];rfl
 obtain ⟨a,b,_⟩:=twoc_of h2
 exact ⟨a,b⟩
set_option maxRecDepth 100000 in
set_option maxHeartbeats 6400000 in
theorem iCheck_any (k:Int) (s:ByteArray) (m:Int) (kk:List T) (a:Option Addr) (c:Nat) (w:World) (hs:s.size≤maxLen) (hn:kk.length≤maxLen) (hcap:kk.length≤c) (hc9:c≤maxLen) (hk:Kids w 0 a kk) (htab:Lib.TabIs Tryz.prog w "internal/strconv.uint64pow10" .u64 Lib.pow10Tab)
  (hg:w.cell? ⟨0,0,none⟩=some (.iface 136 (.agg #[.pointer (some ⟨5,59,none⟩)]))) :
  Calls Tryz.prog 13 #[.agg #[.int .i64 k,.string s,.int .i64 m,.slice a kk.length c]] w fun e w'=>e=.returned (.agg #[.int .i64 (trb (.node k s m kk)).1,.string (trb (.node k s m kk)).2])∧Below w.heap.size w w':=by
 obtain ⟨gg,hgn⟩:=Option.isSome_iff_exists.1 (show (Tryz.prog.globalNamed "internal/strconv.uint64pow10").isSome=true by kernel_rfl)
 have HPO:=xaQ (fun W (hW:Below w.heap.size w W)=>plainOf_any k s m kk a c W hs hn hcap hc9 (hk.below hW) (Joins.tab_stays hgn htab hW (Nat.le_refl _)))
 have B1:Below w.heap.size w ((w.alloc (.cells #[.int .i64 k,.string s,.int .i64 m,.slice a kk.length c] 31)).alloc (.cells #[.int .i64 0,.string ⟨#[]⟩] 27)):=((Below.refl w.heap.size w).alloc (Nat.le_refl _) _).alloc (by simp) _
 have F0:=Four.new w k s m a kk.length c 31
 have F1:=F0.below ((Below.refl _ _).alloc (Nat.le_refl _) (.cells #[.int .i64 0,.string ⟨#[]⟩] 27))
 have h0:=heap_alloc_new (w.alloc (.cells #[.int .i64 k,.string s,.int .i64 m,.slice a kk.length c] 31)) (.cells #[.int .i64 0,.string ⟨#[]⟩] 27)
 have hsz:(w.alloc (.cells #[.int .i64 k,.string s,.int .i64 m,.slice a kk.length c] 31)).heap.size=w.heap.size+1:=by simp
 rw [hsz] at h0
 obtain ⟨P,hP⟩:∃ q,w.heap.size=q:=⟨_,rfl⟩
 obtain ⟨w1,hw1⟩:∃ q,(w.alloc (.cells #[.int .i64 k,.string s,.int .i64 m,.slice a kk.length c] 31)).alloc (.cells #[.int .i64 0,.string ⟨#[]⟩] 27)=q:=⟨_,rfl⟩
 rw [hw1] at h0 F1 B1
 rw [hP] at h0 F1
 have HB:=xaQ B1
 obtain ⟨p0,p1,p2,p3⟩:=F1
 have HR:Hid (∀ W,Below w1.heap.size w1 W→W.heap[P+1]?=some (.cells #[.int .i64 0,.string ⟨#[]⟩] 27 (0,0))):=xaQ (fun W hW=>(hW.block (P+1) (xiQ h0)).trans h0)
 have HG:=xaQ (fun W (hW:Below w.heap.size w W)=>(hW.cell (p:=⟨0,0,none⟩) (World.block_lt_of_cell? w _ hg)).trans hg)
 obtain ⟨tc,htc⟩:∃ q,trb (.node k s m kk)=q:=⟨_,rfl⟩
 have hnm:=trb_name (.node k s m kk)
 rw [htc] at hnm
 rw [htc]
 have HTC:=xaQ htc
 clear htab hk h0 B1 hg htc
 obtain ⟨cd,nm⟩:=tc
 simp only at hnm
 obtain ⟨hts,hnz⟩:=hnm
 have HNZ:=xaQ hnz
 clear hnz
 go_enter Tryz.func13,Tryz.ntmps13
 go_upto_region 3 with (go_at_call 43;refine (HPO.out _ HB.out).mono ?_;rintro e w2 ⟨x,rfl,_,_,hxm,hb2⟩;rw [HTC.out];obtain ⟨zk,zs,zm,za,zc,zkk⟩:=x;simp only [A.val])
 have A4:Below w2.heap.size w2 ((w2.alloc (.cells #[.int .i64 zk,.string zs,.int .i64 zm,.slice za zkk.length zc] 31)).alloc (.cells #[.int .i64 0,.string ⟨#[]⟩] 63)):=((Below.refl _ _).alloc (Nat.le_refl _) _).alloc (by simp) _
 have hB4:=heap_alloc_new (w2.alloc (.cells #[.int .i64 zk,.string zs,.int .i64 zm,.slice za zkk.length zc] 31)) (.cells #[.int .i64 0,.string ⟨#[]⟩] 63)
 rw [show (w2.alloc (.cells #[.int .i64 zk,.string zs,.int .i64 zm,.slice za zkk.length zc] 31)).heap.size=w2.heap.size+1 by simp] at hB4
 obtain ⟨B,hB⟩:∃ q,w2.heap.size=q:=⟨_,rfl⟩
 obtain ⟨w4,hw4⟩:∃ q,(w2.alloc (.cells #[.int .i64 zk,.string zs,.int .i64 zm,.slice za zkk.length zc] 31)).alloc (.cells #[.int .i64 0,.string ⟨#[]⟩] 63)=q:=⟨_,rfl⟩
 rw [hw4] at A4 hB4
 rw [hB] at hB4
 rw [hw4,hB]
 have hz2:=hb2.size
 rw [hB] at hz2
 have bel4:=xbQ hb2 A4
 have HB4:=xaQ bel4
 have HX4:=xaQ hB4
 clear hw4 A4 hB hb2 hxm
 by_cases hc0:cd=0
 ·subst hc0
  obtain rfl:=HNZ.out rfl
  rw [show errOf ((0:Int),(⟨#[]⟩:ByteArray))=.nilIface from rfl]
  obtain ⟨z0,z1,z2,z3⟩:=twoc_of (HR.out _ bel4)
  clear hB4 bel4
  go_wp2_with (go_at_call 44;refine (as_nil _ _).mono ?_;rintro e w5 ⟨rfl,rfl⟩)
  obtain ⟨q0,q1⟩:=putc2 (HR.out _ HB4.out) (.int .i64 0) (.string ⟨#[]⟩)
  exact bodyPost_ret (v:=.agg #[.int .i64 0,.string ⟨#[]⟩]) (by simp [results,Tryz.results13,go_sem,q0,q1]) rfl ⟨rfl,belowc2 (xbQ HB.out HB4.out) (by omega) _ _⟩
 ·rw [show errOf (cd,nm)=.iface 63 (.agg #[.int .i64 cd,.string nm]) by unfold errOf;rw [if_neg hc0];rfl]
  have HA:=xaQ (as_hit cd nm (B+1) _ _ w4 (HG.out _ (xbQ HB.out bel4)) hB4)
  have HC:=xaQ (fun W=>clone_any nm W (by omega))
  clear hB4 bel4
  go_upto_region 4 with (go_at_call 44;refine HA.out.mono ?_;rintro e w5 ⟨rfl,hg5,hB5⟩)
  have bel5:=HB4.out.grown hg5 HB4.out.size (fun q e=>by cases e;omega)
  have HB5:=xaQ bel5
  have hlt:=xiQ (HR.out _ bel5)
  obtain ⟨y0,y1,_⟩:=twoc_of hB5
  have HY:=xaQ hB5
  have hlB:=xiQ hB5
  clear hg5 bel5 hB5
  go_region_law (first | (go_simp;go_at_call 45;refine (HC.out _).mono ?_;rintro e w6 ⟨rfl,hb6⟩;have HB6:=xaQ (xbQ HB5.out.drew hb6);obtain ⟨z0,z1,z2,z3⟩:=twoc_of (HR.out _ HB6.out);obtain ⟨x0,x1,_⟩:=twoc_of ((hb6.block (B+1) hlB).trans HY.out);clear hb6))
  all_goals
   go_wp2
   obtain ⟨q0,q1⟩:=putc2 (HR.out _ HB6.out) (.int .i64 cd) (.string nm)
   exact bodyPost_ret (v:=.agg #[.int .i64 cd,.string nm]) (by simp [results,Tryz.results13,go_sem,q0,q1]) rfl ⟨rfl,belowc2 (xbQ HB.out HB6.out) (by omega) _ _⟩
end Go.Proofs.YtocbgbkdlfkjjaaGreatDoor
