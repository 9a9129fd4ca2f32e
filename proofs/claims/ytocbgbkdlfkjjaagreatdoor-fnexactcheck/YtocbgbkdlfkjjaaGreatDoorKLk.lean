/-
  FnExactCheck: the walk.
  FnExactCheck holds at every argument, the three tables of the library and the handle of the type error being as the text lays them (the card ties them to it): no other conditions.
-/
import Derived.Test.YtocbgbkdlfkjjaaGreatDoorKDj
import Derived.OpenShut
import Derived.Test.YtocbgbkdlfkjjaaGreatDoorTie
import Derived.Test.YtocbgbkdlfkjjaaGreatDoorCards
import Derived.ProofKit
import Derived.LaidMore
import Derived.LaidHandle
import Derived.Stop.Joined
import Derived.SevenTiedAt
import Derived.LaidSub
set_option maxHeartbeats 3200000
namespace Go.Proofs.YtocbgbkdlfkjjaaGreatDoor
open Go.ChangeShapes Go.WideShapes Go.ChangeAt Go.RowKit Go.Joins Go.Deep
open Pl
theorem eqTrouble_same (cd:Int) (nm:ByteArray) (w:World):Calls Tryz.prog 14 #[.agg #[.int .i64 cd,.string nm],.agg #[.int .i64 cd,.string nm]] w fun e w'=>e=.returned (.bool true)∧Below w.heap.size w w':=by
 go_enter Tryz.func14,Tryz.ntmps14
 go_wp2
 go_ret
 exact ⟨rfl,((Below.refl _ _).alloc (Nat.le_refl _) _).alloc (by simp) _⟩
set_option maxRecDepth 100000 in
theorem law_walk (k:Int) (s:ByteArray) (m:Int) (kk:List T) (a:Option Addr) (c:Nat) (w:World) (hs:s.size≤maxLen) (hn:kk.length≤maxLen) (hk:Kids w 0 a kk) (htab:Lib.TabIs Tryz.prog w "internal/strconv.uint64pow10" .u64 Lib.pow10Tab) (hg:w.cell? ⟨0,0,none⟩=some (.iface 136 (.agg #[.pointer (some ⟨5,59,none⟩)]))) :
  Calls Tryz.prog 3 #[.agg #[.int .i64 k,.string s,.int .i64 m,.slice a kk.length c]] w fun e w'=>e=.returned (.bool true)∧Below w.heap.size w w':=by
 have HS:=xaQ (And.intro hs hn)
 have HK:=xaQ hk
 have B0:=xaQ ((Below.refl w.heap.size w).alloc (Nat.le_refl _) (.cells #[.int .i64 k,.string s,.int .i64 m,.slice a kk.length c] 24))
 have F0:=xaQ (Four.new w k s m a kk.length c 24)
 obtain ⟨gg,hgn⟩:=Option.isSome_iff_exists.1 (show (Tryz.prog.globalNamed "internal/strconv.uint64pow10").isSome=true by kernel_rfl)
 have HTB:=xaQ (fun W (hW:Below w.heap.size w W)=>Joins.tab_stays hgn htab hW (Nat.le_refl _))
 have HG:=xaQ (fun W (hW:Below w.heap.size w W)=>(hW.cell (p:=⟨0,0,none⟩) (World.block_lt_of_cell? w _ hg)).trans hg)
 clear hs hn hk htab hgn hg
 go_enter Tryz.func3,Tryz.ntmps3
 go_wp2_with fail
 refine (szNode_ok (.node k s m kk) a c _ _ HS.out.1 HS.out.2 (HK.out.below B0.out) (by omega) (by omega)).mono ?_
 rintro e w1 ⟨⟨r,rfl,hm⟩,hb1⟩
 have B1:=xaQ (xbQ B0.out hb1)
 have F1:=xaQ (F0.out.below hb1)
 have HM:=xaQ hm
 clear hb1 hm F0 B0
 by_cases hr:r<0
 ·go_wp2
  go_ret
  exact ⟨rfl,B1.out⟩
 ·have HZ:Hid (bulk (.node k s m kk)≤1048576):=xaQ (by have:=HM.out;omega)
  have HC:Hid (cnt (.node k s m kk)≤1048577):=xaQ (by have:=HZ.out;have:=cnt_le (.node k s m kk);omega)
  clear HM
  obtain ⟨p0,p1,p2,p3⟩:=F1.out
  go_wp2_with fail
  refine (toNode_ok (.node k s m kk) a c _ HZ.out (HK.out.below B1.out)).mono ?_
  rintro e w2 ⟨⟨a2,c2,rfl,hk2⟩,hb2⟩
  have B2:=xaQ (xbQ B1.out hb2)
  have F2:=xaQ (F1.out.below hb2)
  have K2:=xaQ (hk2.lower (Nat.zero_le _))
  clear hb2 hk2 F1 B1 p0 p1 p2 p3
  go_wp2_with fail
  refine (sCheck_any k s m kk a2 c2 _ HS.out.1 HS.out.2 HC.out K2.out).mono ?_
  rintro e w3 ⟨rfl,hb3⟩
  have B3:=xaQ (xbQ B2.out hb3)
  have F3:=xaQ (F2.out.below hb3)
  have HI:=xaQ (fun (a:Option Addr) (c:Nat) (W:World) (hcap:kk.length≤c) (hc9:c≤maxLen) (hk:Kids W 0 a kk) (ht:Lib.TabIs Tryz.prog W "internal/strconv.uint64pow10" .u64 Lib.pow10Tab) hg=>iCheck_any k s m kk a c W HS.out.1 HS.out.2 hcap hc9 hk ht hg)
  generalize trb (.node k s m kk)=tr at HI ⊢
  obtain ⟨cd,nm⟩:=tr
  have A3:=xaQ ((Below.refl w3.heap.size w3).alloc (Nat.le_refl _) (.cells #[.int .i64 cd,.string nm] 27))
  have N3:=xaQ (heap_alloc_new w3 (.cells #[.int .i64 cd,.string nm] 27))
  clear hb3 F2 B2 K2
  obtain ⟨p0,p1,p2,p3⟩:=F3.out.below A3.out
  go_wp2_with fail
  refine (toNode_cap k s m kk a c _ HZ.out (HK.out.below (xbQ B3.out A3.out))).mono ?_
  rintro e w4 ⟨⟨a4,c4,rfl,hk4,hcap4,hc94⟩,hb4⟩
  have B4:=xaQ (xbQ (xbQ B3.out A3.out) hb4)
  have F4:=xaQ ((F3.out.below A3.out).below hb4)
  have N4:=xaQ ((hb4.block w3.heap.size (by simp)).trans N3.out)
  have K4:=xaQ (hk4.lower (Nat.zero_le _))
  have C4:=xaQ (And.intro hcap4 hc94)
  obtain ⟨X,hX⟩:∃ q,w3.heap.size=q:=⟨_,rfl⟩
  rw [hX] at N4
  first | rw [hX] | skip
  clear hb4 hk4 hcap4 hc94 F3 B3 p0 p1 p2 p3 N3 A3 hX
  have A4:=xaQ ((Below.refl w4.heap.size w4).alloc (Nat.le_refl _) (.cells #[.int .i64 k,.string s,.int .i64 m,.slice a4 kk.length c4] 31))
  have Y4:=xaQ (Four.new w4 k s m a4 kk.length c4 31)
  obtain ⟨Y,hY⟩:∃ q,w4.heap.size=q:=⟨_,rfl⟩
  have HY:=xaQ hY
  go_wp2_with fail
  refine (HI.out a4 c4 _ C4.out.1 C4.out.2 (K4.out.below A4.out) (HTB.out _ (xbQ B4.out A4.out)) (HG.out _ (xbQ B4.out A4.out))).mono ?_
  rintro e w5 ⟨rfl,hb5⟩
  have B5:=xaQ (xbQ (xbQ B4.out A4.out) hb5)
  have F5:=xaQ ((F4.out.below A4.out).below hb5)
  have X5:=xaQ (Y4.out.below hb5)
  have N5:=xaQ ((hb5.block X (Nat.lt_of_lt_of_le (xiQ N4.out) A4.out.size)).trans ((A4.out.block X (xiQ N4.out)).trans N4.out))
  have K5:=xaQ ((K4.out.below A4.out).below hb5)
  rw [hY] at X5
  first | rw [hY] | skip
  clear hb5 A4 F4 B4 K4 N4 Y4 hY
  have A5:=xaQ ((Below.refl w5.heap.size w5).alloc (Nat.le_refl _) (.cells #[.int .i64 cd,.string nm] 27))
  obtain ⟨n0,n1,_⟩:=twoc_of ((A5.out.block X (xiQ N5.out)).trans N5.out)
  go_wp2_with fail
  refine (eqTrouble_same cd nm _).mono ?_
  rintro e w6 ⟨rfl,hb6⟩
  have B6:=xaQ (xbQ (xbQ B5.out A5.out) hb6)
  have F6:=xaQ ((F5.out.below A5.out).below hb6)
  have X6:=xaQ ((X5.out.below A5.out).below hb6)
  have K6:=xaQ ((K5.out.below A5.out).below hb6)
  clear hb6 A5 F5 X5 K5 N5 B5 n0 n1
  obtain ⟨p0,p1,p2,p3⟩:=F6.out
  obtain ⟨q0,q1,q2,q3⟩:=X6.out
  have hlx:w.heap.size<w6.heap.size:=World.block_lt_of_cell? w6 _ p0
  have hly:Y<w6.heap.size:=World.block_lt_of_cell? w6 _ q0
  go_wp2_with fail
  go_region_held3 (fun w'=>w'.cell? ⟨w.heap.size,0,none⟩=some (.int .i64 k)∧w'.cell? ⟨w.heap.size,1,none⟩=some (.string s)∧w'.cell? ⟨w.heap.size,2,none⟩=some (.int .i64 m)∧w'.cell? ⟨w.heap.size,3,none⟩=some (.slice a kk.length c)∧w'.cell? ⟨Y,0,none⟩=some (.int .i64 k)∧w'.cell? ⟨Y,1,none⟩=some (.string s)∧w'.cell? ⟨Y,2,none⟩=some (.int .i64 m)∧w'.cell? ⟨Y,3,none⟩=some (.slice a4 kk.length c4))
   (first | exact ⟨p0,p1,p2,p3,q0,q1,q2,q3⟩ | exact ⟨(hc _ _ hlx).trans p0,(hc _ _ hlx).trans p1,(hc _ _ hlx).trans p2,(hc _ _ hlx).trans p3,(hc _ _ hly).trans q0,(hc _ _ hly).trans q1,(hc _ _ hly).trans q2,(hc _ _ hly).trans q3⟩)
   (first | (go_at_call 12;refine (toNode_ok (.node k s m kk) a c _ HZ.out (HK.out.below B6.out.drew)).mono ?_;rintro e w7 ⟨⟨a6,c6,rfl,hk6⟩,hb7⟩;obtain ⟨hc,hf⟩:=yrQ hb7) | (go_at_call 15;refine (eqNode_ok (.node k s m kk) a4 a6 c4 c6 _ HS.out.2 ((K6.out.below (Below.refl _ _).drew).below hb7) (hk6.lower (Nat.zero_le _))).mono ?_;rintro e w8 ⟨rfl,hb8⟩;obtain ⟨hc',hf'⟩:=yrQ hb8;have hc:=fun (b o:Nat) (h:b<w6.drew.heap.size)=>(hc' b o (Nat.lt_of_lt_of_le h hb7.size)).trans (hc b o h)))
  have B7:=xaQ (xbQ (xbQ B6.out.drew hb7) hb8)
  clear hc hc' hf hf' hb7 hb8 hk6
  go_wp2
  go_ret
  exact ⟨rfl,B7.out⟩
def law_laid:List (String × DataW Unit):=[("math/bits.deBruijn32tab", Rows.laid_math_bits_deBruijn32tab),("math/bits.deBruijn64tab", Rows.laid_math_bits_deBruijn64tab),("internal/strconv.uint64pow10", Rows.laid_internal_strconv_uint64pow10),("errors.errorType", Rows.laid_errors_errorType)]
theorem law_door_met (os:Os) (args:Array Value):laidMetH Tryz.prog law_laid ((World.doorLaid Tryz.prog 400 os).forCall (fun _ _=>0) ⟨#[],args,[]⟩).memory :=
 laidMetH_of_parts3 (fuel:=8) (laidMet_of_run' 8 (by kernel_rfl) (by kernel_rfl)) (by kernel_rfl) (by kernel_rfl)
theorem law_of_laid {W:World} (h:laidMetH Tryz.prog law_laid W):Lib.TabIs Tryz.prog W "internal/strconv.uint64pow10" .u64 Lib.pow10Tab:=by
 have h1:=h.filter (fun x=>x.1 == "internal/strconv.uint64pow10")
 have e:law_laid.filter (fun x=>x.1 == "internal/strconv.uint64pow10")=[("internal/strconv.uint64pow10", Lib.tabData .u64 Lib.pow10Tab)]:=by rfl
 rw [e,MakeChecks.laidMetH_plain _ _ _ (by kernel_rfl)] at h1
 exact Lib.tabIs_of_head (g:=2) (t:=224) (e:=218) (n:=20) (by kernel_rfl) (by kernel_rfl) Tryz.underlying224 Tryz.underlying218 (by kernel_rfl) (by kernel_rfl) h1
theorem law_rt:(Tryz.prog.cutTypes.find? (·.1 == "internal/reflectlite.rtype")).map (·.2)=some 136:=by kernel_rfl
theorem law_one:((List.range Tryz.prog.types.size).filter fun t=>Tryz.prog.rowNamed t [101,114,114,111,114])=[59]:=by kernel_rfl
theorem law_et:Tryz.prog.globalNamed "errors.errorType" = some 0:=by kernel_rfl
/-- The handle of the type error, in its variable. -/
theorem law_handle {W:World} (h:laidMetH Tryz.prog law_laid W):W.cell? ⟨0,0,none⟩=some (.iface 136 (.agg #[.pointer (some ⟨5,59,none⟩)])):=by
 have h1:=h.filter (fun x=>x.1 == "errors.errorType")
 have e:law_laid.filter (fun x=>x.1 == "errors.errorType")=[("errors.errorType", Rows.laid_errors_errorType)]:=by rfl
 rw [e] at h1
 have h':laidMet Tryz.prog [] W∧handlesMet Tryz.prog [("errors.errorType", Rows.laid_errors_errorType)] W:=h1
 obtain ⟨name,u,ty,e1,e2,e3,e4,e5⟩:=h'.2 _ (List.mem_singleton.2 rfl)
 have en:name=[101,114,114,111,114]:=(Option.some.inj e1).symm
 subst en
 obtain rfl:=Option.some.inj (law_rt.symm.trans e2)
 have hm:ty∈(List.range Tryz.prog.types.size).filter fun t=>Tryz.prog.rowNamed t [101,114,114,111,114]:=List.mem_filter.2 ⟨List.mem_range.2 e3,e4⟩
 rw [law_one] at hm
 obtain rfl:=List.mem_singleton.1 hm
 have hh:typeHandle Tryz.prog 59=.pointer (some ⟨5,59,none⟩):=by kernel_rfl
 rw [hh] at e5
 simpa using World.var?_cell law_et e5 0
set_option maxRecDepth 100000 in
theorem law_lifted (os:Os) (started:os.Started) (H:Type) (enc:TypeId × Value→H) :
  ReturnsInHanded {} Tryz.checked os 3 .any (fun w args=>(Rows.fnExactCheckSpec.pre enc Tryz.prog Tryz.f3 [] false w args∧laidMetH Tryz.prog law_laid w)∧sizedMet enc Tryz.prog Tryz.f3 (OpenSpec.ofChange Rows.fnExactCheckSpec) false w args)
   (Rows.fnExactCheckSpec.post enc Tryz.prog Tryz.f3 false true false false):=by
 refine returnsInHanded_of_change_and (C:=Tryz.checked) (X:=fun w _=>laidMetH Tryz.prog law_laid w) (fun _ _ _ hh h=>h.of_heap hh) Tryz.own started (by kernel_rfl) Tryz.func3
  (ChangeSpec.witness_shaped (enc:=enc) (C:=Tryz.checked) (os:=os) (X:=fun w _=>laidMetH Tryz.prog law_laid w) false (World.doorLaid Tryz.prog 400 os) #[.agg #[.int .i64 0,.string ⟨#[]⟩,.int .i64 0,.slice none 0 0]] 8 rfl (World.shaped_of_RefB (by kernel_rfl) (by kernel_rfl)) (by kernel_rfl) (by kernel_rfl) (by kernel_rfl) (law_door_met os _)) ?_
 intro W base args ds gs before hval0 hW _ _ hL _
 have hval:∀ (j:Nat) t v,Tryz.f3.params[j]?=some t→args[j]?=some v→Value.okWide Tryz.prog W .any base t v:=hval0
 have hW':=hW
 obtain ⟨p,q,hA0,hV,rfl,hfz,hnd⟩:=hW
 have hA:DataW.TrodAll enc Tryz.prog W 0 (fun _=>true) true Tryz.f3.params.toList args.toList ds p:=hA0
 rw [Tryz.params3] at hA hval
 obtain ⟨v0,d0,rfl,rfl,h0⟩:=trodAll_one hA
 obtain ⟨rfl,rfl⟩:=trodVars_none hV
 have k0:=h0
 have lt0:∀ x∈p,x.block<W.heap.size:=by obtain ⟨m,hm⟩:=k0;exact DataW.trod_lt m _ _ _ hm
 obtain ⟨c0,c1,c2,c3,y0,y1,y2,y3,m,hv,_,_,hy0,hy1,hy2,hy3⟩:=open_agg4 Tryz.underlying24 (by kernel_rfl) Tryz.cells24 (hval 0 24 v0 rfl rfl) h0
 obtain ⟨x0,e0,_,_⟩:=DataW.trod_int Tryz.underlying3 hy0
 obtain ⟨x1,e1,_,hs⟩:=DataW.trod_string Tryz.underlying9 hy1
 obtain ⟨x2,e2,_,_⟩:=DataW.trod_int Tryz.underlying3 hy2
 obtain ⟨a,c,kk,e3,hn,hk⟩:=open_kids _ (Nat.lt_succ_self _) hy3
 simp at e0 e1 e2
 subst e0 e1 e2 e3 hv
 clear hA0 hval0
 refine (law_walk x0 x1 x2 kk a c W hs hn hk (law_of_laid hL) (law_handle hL)).mono fun e W' ⟨he,bel⟩=>?_
 subst he
 exact ⟨_,rfl,_,_,_,[],_,[],hW',trodAll_mk1 (shut_bool Tryz.underlying4 _),trodAll_mk1 (Below.trod Tryz.laidOut (by kernel_rfl) (of_decide_eq_true (by kernel_rfl)) k0 bel lt0),rfl,bel.frame _,fun h=>by cases h⟩
theorem law_holds:Rows.FnExactCheckSaid :=
 OpenClaim.holds_of_wide 3 Tryz.f3 rfl rfl rfl rfl rfl rfl rfl ⟨rfl,rfl,rfl,rfl,rfl⟩ rfl rfl rfl rfl rfl (by kernel_rfl) Tryz.func3 (by kernel_rfl)
  (of_decide_eq_true (by kernel_rfl)) (by unfold Func.isWrapper;first | (rw [if_pos (by decide +kernel)];kernel_rfl) | (rw [if_neg (by decide +kernel)];exact ⟨rfl,rfl⟩))
  (fun os started H enc _=>law_lifted os started H enc)
theorem card_holds:Rows.FnExactCheckCardSaid :=
 Claim7.holds_tied_plain_at .later [] [.data,.data,.data,.handle] true (true, "a85153acc5abff651191a3c37cb51debfaf6d8a90b0c5991a0ca4506e66387ba") true
  law_holds (fun _ h=>by cases h) (by kernel_rfl) (fun _ h=>by cases h) fnExactCheck_row_tie rfl ⟨rfl,rfl⟩ (by kernel_rfl) rfl
  (fun f fn hf hfn=>by
   obtain rfl:f=3:=Option.some.inj ((show Tryz.prog.funcNamed "loop.example/g00093/laws.FnExactCheck" = some 3 by kernel_rfl).symm.trans hf) |>.symm
   obtain rfl:fn=Tryz.f3:=(Option.some.inj (Tryz.func3.symm.trans hfn)).symm
   exact ⟨by kernel_rfl,fun j t ht=>by
    rw [Tryz.params3] at ht
    have hm:t∈[24]:=by simpa using Array.mem_of_getElem? ht
    have hall:([24].all fun u=>!Tryz.prog.wantsStandIn u)=true:=by kernel_rfl
    exact (show Tryz.prog.wantsStandIn t=false by simpa using List.all_eq_true.1 hall t hm)⟩)
  (by kernel_rfl)
#print axioms card_holds
end Go.Proofs.YtocbgbkdlfkjjaaGreatDoor
