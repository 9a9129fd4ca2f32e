/- FnExactArraysOf holds at every argument, the three tables of the library and the handle of the type error being as the text lays them (the card ties them to it) -/
import Derived.Test.YtocbgbkdlfkjjaaGreatDoorMFa
import Derived.Test.YtocbgbkdlfkjjaaGreatDoorMSa
import Derived.OpenShut
import Derived.Test.YtocbgbkdlfkjjaaGreatDoorTie
import Derived.Test.YtocbgbkdlfkjjaaGreatDoorCards
import Derived.ProofKit
import Derived.LaidMore
import Derived.LaidHandle
import Derived.Stop.Joined
import Derived.SevenTiedAt
import Derived.LaidSub
set_option maxRecDepth 100000
namespace Go.Proofs.YtocbgbkdlfkjjaaGreatDoor
open Go.ChangeShapes Go.WideShapes Go.ChangeAt Go.RowKit Go.Joins Go.Deep
open Pl
theorem four_at {w w':World} {b:Nat} {k m:Int} {s:ByteArray} {a:Option Addr} {n c:Nat} (h:Four w b k s m a n c) (hb:w'.heap[b]?=w.heap[b]?):Four w' b k s m a n c :=
 ⟨(World.cell?_of_block (w:=w) hb).trans h.1,(World.cell?_of_block (w:=w) hb).trans h.2.1,(World.cell?_of_block (w:=w) hb).trans h.2.2.1,(World.cell?_of_block (w:=w) hb).trans h.2.2.2⟩
theorem OwnSt.at' {w:World} {base:Nat} {a:Option Addr} {n c:Nat} {L:List ByteArray} (h:OwnSt w base (.slice a n c) L):StrsAt w a L:=by
 rcases h.2 with ⟨e,h0⟩ | ⟨g,cap,cur,e,_⟩
 ·exact .inl (List.eq_nil_of_length_eq_zero h0)
 ·simp at e
  obtain ⟨rfl,rfl,rfl⟩:=e
  exact OwnSt.at h
theorem zOQ (k:Int) (s:ByteArray) (m:Int) (kk:List T) (lo hi:Nat) (a:Option Addr) (c:Nat) (w:World) (hk:MkK w lo hi a kk) (_:hi≤w.heap.size) (hc:3 * cnts kk≤8000000) :
 Calls Tryz.prog 18 #[.agg #[.int .i64 k,.string s,.int .i64 m,.slice a kk.length c],.int .i64 1] w fun e w'=>e=.returned (.int .i64 (1+3 * cnts kk))∧w'.os=w.os∧w'.tape=w.tape∧w'.output=w.output∧w.heap.size≤w'.heap.size∧∀ b,b<w.heap.size→¬ (lo≤b∧b<hi)→w'.heap[b]?=w.heap[b]?:=by
 have A0:Below w.heap.size w (w.alloc (.cells #[.int .i64 k,.string s,.int .i64 m,.slice a kk.length c] 31)):=(Below.refl _ _).alloc (Nat.le_refl _) _
 have HM:=xaQ ((markNodeS_ok (.node k s m kk)) lo hi a c 1 _ (hk.stay (WroteQ.of_below (L:=0) (lo:=lo) (hi:=hi) A0) (Nat.zero_le _)) (by omega) (by omega))
 have HA:=xaQ A0
 clear A0 hk
 go_enter Tryz.func18,Tryz.ntmps18
 go_wp2_with (go_at_call 48;refine HM.out.mono ?_;rintro e w1 ⟨rfl,ho⟩)
 go_ret
 have hA:=HA.out
 exact ⟨rfl,ho.os.trans hA.os,ho.tape.trans hA.tape,ho.output.trans hA.output,Nat.le_trans hA.size ho.size,fun b hb hn=>(ho.block b (Nat.lt_of_lt_of_le hb hA.size) hn).trans (hA.block b hb)⟩
set_option maxHeartbeats 6400000 in
theorem law_walk (k:Int) (s:ByteArray) (m:Int) (kk:List T) (a:Option Addr) (c:Nat) (w:World) (hs:s.size≤maxLen) (hn:kk.length≤maxLen) (hk:Kids w 0 a kk) (htab:Lib.TabIs Tryz.prog w "internal/strconv.uint64pow10" .u64 Lib.pow10Tab) (hg:w.cell? ⟨0,0,none⟩=some (.iface 136 (.agg #[.pointer (some ⟨5,59,none⟩)]))) :
 Calls Tryz.prog 6 #[.agg #[.int .i64 k,.string s,.int .i64 m,.slice a kk.length c]] w fun e w'=>e=.returned (.bool true)∧Below w.heap.size w w':=by
 have HS:=xaQ (And.intro hs hn)
 have HK:=xaQ hk
 have B0:=xaQ ((Below.refl w.heap.size w).alloc (Nat.le_refl _) (.cells #[.int .i64 k,.string s,.int .i64 m,.slice a kk.length c] 24))
 have F0:=xaQ (Four.new w k s m a kk.length c 24)
 obtain ⟨gg,hgn⟩:=Option.isSome_iff_exists.1 (show (Tryz.prog.globalNamed "internal/strconv.uint64pow10").isSome=true by kernel_rfl)
 have HEN:=xaQ (fun W (hW:Below w.heap.size w W)=>And.intro (Joins.tab_stays hgn htab hW (Nat.le_refl _)) ((hW.cell (p:=⟨0,0,none⟩) (World.block_lt_of_cell? w _ hg)).trans hg))
 obtain ⟨l,hl⟩:∃ l,zkQ (.node k s m kk) 32=l:=⟨_,rfl⟩
 have hll:l.length≤1000:=by rw [← hl];exact namesP_le _ _
 have HLM:Hid (l.length≤maxLen):=xaQ (by unfold maxLen;omega)
 have HSP:Hid (∀ (a:Option Addr) (c:Nat) (w:World),cnt (.node k s m kk)≤1048577→Kids w 0 a kk→Calls Tryz.prog 25 #[.agg #[.int .i64 k,.string s,.int .i64 m,.slice a kk.length c]] w (NPost l w)):=xaQ (by rw [← hl];exact fun a c w hc h=>sArrs_any k s m kk a c w hs hn hc h)
 have HIP:Hid (∀ (a:Option Addr) (c:Nat) (W:World),kk.length≤c→c≤maxLen→Kids W 0 a kk→Below w.heap.size w W→Calls Tryz.prog 26 #[.agg #[.int .i64 k,.string s,.int .i64 m,.slice a kk.length c]] W (NPost l W)):=xaQ (by rw [← hl];exact fun a c W h1 h2 h hW=>iArrs_any k s m kk a c W hs hn h1 h2 h (HEN.out W hW).1 (HEN.out W hW).2)
 clear hs hn hk htab hgn hg hl HEN
 go_enter Tryz.func6,Tryz.ntmps6
 go_wp2_with fail
 refine (szNode_ok (.node k s m kk) a c _ _ HS.out.1 HS.out.2 (HK.out.below B0.out) (by omega) (by omega)).mono ?_
 rintro e w1 ⟨⟨r,rfl,hm⟩,hb1⟩
 have B1:=xaQ (xbQ B0.out hb1)
 have F1:=xaQ (F0.out.below hb1)
 have HM:=xaQ hm
 clear hb1 hm F0 B0
 by_cases hr:r<0
 ·go_wp2
  go_ret
  exact ⟨rfl,B1.out⟩
 ·have HZ:Hid (bulk (.node k s m kk)≤1048576):=xaQ (by have:=HM.out;omega)
  have HC:Hid (cnt (.node k s m kk)≤1048577):=xaQ (by have:=HZ.out;have:=cnt_le (.node k s m kk);omega)
  have HC3:Hid (3 * cnts kk≤8000000):=xaQ (by have:=HC.out;simp only [cnt] at this;omega)
  clear HM
  obtain ⟨p0,p1,p2,p3⟩:=F1.out
  go_wp2_with fail
  refine (ygQ (.node k s m kk) a c _ HZ.out (HK.out.below B1.out)).mono ?_
  rintro e w2 ⟨⟨a2,c2,rfl,hk2,_⟩,hb2⟩
  have B2:=xaQ (xbQ B1.out hb2)
  have F2:=xaQ (F1.out.below hb2)
  have K2:=xaQ (hk2.plain.lower (Nat.zero_le _))
  clear hb2 hk2 F1 B1 p0 p1 p2 p3
  go_wp2_with fail
  refine (HSP.out a2 c2 _ HC.out K2.out).mono ?_
  rintro e w3 ⟨sa,sc,rfl,so,hb3⟩
  have B3:=xaQ (xbQ B2.out hb3)
  have F3:=xaQ (F2.out.below hb3)
  have S3:=xaQ so
  have hz3:w.heap.size<w3.heap.size:=World.block_lt_of_cell? w3 _ F3.out.1
  have z3:=hb3.size
  clear hb3 F2 K2 so
  obtain ⟨p0,p1,p2,p3⟩:=F3.out
  go_wp2_with fail
  refine (ygQ (.node k s m kk) a c _ HZ.out (HK.out.below B3.out)).mono ?_
  rintro e w4 ⟨⟨a4,c4,rfl,hk4,hcap4,hc94⟩,hb4⟩
  have B4:=xaQ (xbQ B3.out hb4)
  have F4:=xaQ (F3.out.below hb4)
  have K4:=xaQ (hk4.plain.lower (Nat.zero_le _))
  have M4:=xaQ hk4.mk
  have C4:=xaQ (And.intro hcap4 hc94)
  have S4:=xaQ (S3.out.below hb4)
  have z4:=hb4.size
  have SL:Hid (∀ q,Value.ownBlock (.slice sa l.length sc)=some q→w.heap.size≤q∧q<w3.heap.size):=xaQ fun q hq=>by
   have h1:=S3.out.lt hq
   have h2:=B2.out.size
   exact ⟨by omega,h1.2⟩
  clear hb4 hk4 hcap4 hc94 F3 p0 p1 p2 p3 S3
  go_wp2_with fail
  have A4:=xaQ ((Below.refl w4.heap.size w4).alloc (Nat.le_refl _) (.cells #[.int .i64 k,.string s,.int .i64 m,.slice a4 kk.length c4] 31))
  refine (HIP.out a4 c4 _ C4.out.1 C4.out.2 (K4.out.below A4.out) (xbQ B4.out A4.out)).mono ?_
  rintro e w5 ⟨ga,gc,rfl,go,hb5⟩
  have B5:=xaQ (xbQ (xbQ B4.out A4.out) hb5)
  have F5:=xaQ ((F4.out.below A4.out).below hb5)
  have X5:=xaQ ((Four.new w4 k s m a4 kk.length c4 31).below hb5)
  have K5:=xaQ ((K4.out.below A4.out).below hb5)
  have M5:=xaQ ((M4.out.stay (WroteQ.of_below (L:=0) (lo:=0) (hi:=0) A4.out) (Nat.zero_le _)).stay (WroteQ.of_below (L:=0) (lo:=0) (hi:=0) hb5) (Nat.zero_le _))
  have S5:=xaQ ((S4.out.below A4.out).below hb5)
  have G5:=xaQ go
  have GL:Hid (∀ q,Value.ownBlock (.slice ga l.length gc)=some q→w4.heap.size<q∧q<w5.heap.size):=xaQ fun q hq=>by
   have h1:=G5.out.lt hq
   simp at h1
   exact ⟨by omega,h1.2⟩
  have z5:w4.heap.size<w5.heap.size:=by have:=hb5.size;simp at this;omega
  clear hb5 A4 F4 B4 K4 M4 S4 go
  go_wp2_with fail
  refine (eqStrS_ok l ga sa gc sc _ HLM.out G5.out.at S5.out.at).mono ?_
  rintro e w6 ⟨rfl,hb6⟩
  have B6:=xaQ (xbQ B5.out hb6)
  have F6:=xaQ (F5.out.below hb6)
  have X6:=xaQ (X5.out.below hb6)
  have K6:=xaQ (K5.out.below hb6)
  have M6:=xaQ (M5.out.stay (WroteQ.of_below (L:=0) (lo:=0) (hi:=0) hb6) (Nat.zero_le _))
  have S6:=xaQ (S5.out.below hb6)
  have G6:=xaQ (G5.out.below hb6)
  have z6:=hb6.size
  clear hb6 B5 F5 X5 K5 M5 S5 G5
  obtain ⟨p0,p1,p2,p3⟩:=F6.out
  obtain ⟨q0,q1,q2,q3⟩:=X6.out
  have hlx:w.heap.size<w6.heap.size:=World.block_lt_of_cell? w6 _ p0
  have hly:w4.heap.size<w6.heap.size:=World.block_lt_of_cell? w6 _ q0
  go_wp2_with fail
  go_region_held3 (fun w'=>w'.cell? ⟨w.heap.size,0,none⟩=some (.int .i64 k)∧w'.cell? ⟨w.heap.size,1,none⟩=some (.string s)∧w'.cell? ⟨w.heap.size,2,none⟩=some (.int .i64 m)∧w'.cell? ⟨w.heap.size,3,none⟩=some (.slice a kk.length c)∧w'.cell? ⟨w4.heap.size,0,none⟩=some (.int .i64 k)∧w'.cell? ⟨w4.heap.size,1,none⟩=some (.string s)∧w'.cell? ⟨w4.heap.size,2,none⟩=some (.int .i64 m)∧w'.cell? ⟨w4.heap.size,3,none⟩=some (.slice a4 kk.length c4))
   (first | exact ⟨p0,p1,p2,p3,q0,q1,q2,q3⟩ | exact ⟨(hc _ _ hlx).trans p0,(hc _ _ hlx).trans p1,(hc _ _ hlx).trans p2,(hc _ _ hlx).trans p3,(hc _ _ hly).trans q0,(hc _ _ hly).trans q1,(hc _ _ hly).trans q2,(hc _ _ hly).trans q3⟩)
   (first | (go_at_call 12;refine (ygQ (.node k s m kk) a c _ HZ.out (HK.out.below B6.out.drew)).mono ?_;rintro e w7 ⟨⟨a6,c6,rfl,hk6,_⟩,hb7⟩;obtain ⟨hc,hf⟩:=ykQ hb7) | (go_at_call 15;refine (eqNode_ok (.node k s m kk) a4 a6 c4 c6 _ HS.out.2 ((K6.out.below (Below.refl _ _).drew).below hb7) (hk6.plain.lower (Nat.zero_le _))).mono ?_;rintro e w8 ⟨rfl,hb8⟩;obtain ⟨hc',hf'⟩:=ykQ hb8;have hc:=fun (b o:Nat) (h:b<w6.drew.heap.size)=>(hc' b o (Nat.lt_of_lt_of_le h hb7.size)).trans (hc b o h)))
  have N8:=xaQ (xbQ (xbQ (Below.refl w6.heap.size w6).drew hb7) hb8)
  have B8:=xaQ (xbQ B6.out N8.out)
  have F8:=xaQ (F6.out.below N8.out)
  have X8:=xaQ (X6.out.below N8.out)
  have M8:=xaQ (M6.out.stay (WroteQ.of_below (L:=0) (lo:=0) (hi:=0) N8.out) (Nat.zero_le _))
  have S8:=xaQ (S6.out.below N8.out)
  have G8:=xaQ (G6.out.below N8.out)
  have z8:=N8.out.size
  clear hc hc' hf hf' hb7 hb8 hk6 p0 p1 p2 p3 q0 q1 q2 q3 B6 F6 X6 K6 M6 S6 G6 N8
  obtain ⟨q0,q1,q2,q3⟩:=X8.out
  go_wp2_with fail
  refine (zOQ k s m kk w3.heap.size w4.heap.size a4 c4 _ M8.out (by omega) HC3.out).mono ?_
  rintro e w9 ⟨rfl,ho1,ho2,ho3,ho4,ho5⟩
  have hB3:=B3.out.size
  have B9:Hid (Below w.heap.size w w9):=xaQ ⟨ho1.trans B8.out.os,ho2.trans B8.out.tape,ho3.trans B8.out.output,Nat.le_trans B8.out.size ho4,fun i hi=>(ho5 i (Nat.lt_of_lt_of_le hi B8.out.size) (by omega)).trans (B8.out.block i hi)⟩
  have F9:=xaQ (four_at F8.out (ho5 w.heap.size (by omega) (by omega)))
  have S9:Hid (OwnSt w9 _ _ l):=xaQ (S8.out.held (fun q hq hlt=>ho5 q hlt (fun h=>by have:=SL.out q hq;omega)))
  have G9:Hid (OwnSt w9 _ _ l):=xaQ (G8.out.held (fun q hq hlt=>ho5 q hlt (fun h=>by have:=GL.out q hq;omega)))
  have z9:=ho4
  obtain ⟨r9,hr9⟩:∃ r:Int,1+3 * (cnts kk:Int)=r:=⟨_,rfl⟩
  have hr9':¬ r9<0:=by omega
  rw [hr9]
  clear ho1 ho2 ho3 ho4 ho5 q0 q1 q2 q3 X8 M8 S8 G8 F8 B8 hr9
  go_wp2_with fail
  refine (eqStrS_ok l ga sa gc sc _ HLM.out G9.out.at S9.out.at).mono ?_
  rintro e w10 ⟨rfl,hb10⟩
  have B10:=xaQ (xbQ B9.out hb10)
  have F10:=xaQ (F9.out.below hb10)
  have S10:=xaQ (S9.out.below hb10)
  have G10:=xaQ (G9.out.below hb10)
  have z10:=hb10.size
  clear hb10 B9 F9 S9 G9
  go_wp2_with fail
  refine (markStrS_ok l ga gc _ 1 _ (by omega) (by omega) (by omega) G10.out).mono ?_
  rintro e w11 ⟨rfl,go11,hg11⟩
  have B11:Hid (Below w.heap.size w w11):=xaQ (B10.out.grown hg11 B10.out.size (fun q hq=>by have:=GL.out q hq;omega))
  have F11:=xaQ (four_at F10.out (hg11.block w.heap.size (by omega) (fun e=>by have:=GL.out _ e.symm;omega)))
  have S11:Hid (OwnSt w11 _ _ l):=xaQ (S10.out.held (fun q hq hlt=>hg11.block q hlt (fun e=>by have h1:=SL.out q hq;have h2:=GL.out q e.symm;omega)))
  have G11:=xaQ go11
  have z11:=hg11.size
  clear hg11 go11 B10 F10 S10 G10
  go_wp2_with fail
  refine (heldStrS_ok l.length ga gc 1 _ (by omega) (by omega) (by omega) G11.out.at').mono ?_
  rintro e w12 ⟨rfl,hb12⟩
  have B11:=xaQ (xbQ B11.out hb12)
  have F11:=xaQ (F11.out.below hb12)
  have S11:=xaQ (S11.out.below hb12)
  have G11:=xaQ (G11.out.below hb12)
  clear hb12
  obtain ⟨p0,p1,p2,p3⟩:=F11.out
  have hq0:¬ (1+(l.length:Int)<0):=by omega
  go_wp2_with fail
  refine (ygQ (.node k s m kk) a c _ HZ.out (HK.out.below B11.out)).mono ?_
  rintro e w13 ⟨⟨a13,c13,rfl,hk13,hcap13,hc13⟩,hb13⟩
  have B13:=xaQ (xbQ B11.out hb13)
  have K13:=xaQ (hk13.plain.lower (Nat.zero_le _))
  have C13:=xaQ (And.intro hcap13 hc13)
  have S13:=xaQ (S11.out.below hb13)
  have G13:=xaQ (G11.out.below hb13)
  clear hb13 hk13 hcap13 hc13 p0 p1 p2 p3 B11 F11 S11 G11
  go_wp2_with fail
  refine (HIP.out a13 c13 _ C13.out.1 C13.out.2 K13.out B13.out).mono ?_
  rintro e w14 ⟨ha,hcap,rfl,ho14,hb14⟩
  have B14:=xaQ (xbQ B13.out hb14)
  have S14:=xaQ (S13.out.below hb14)
  have G14:=xaQ (G13.out.below hb14)
  have H14:=xaQ ho14
  clear hb14 ho14 B13 K13 S13 G13
  go_wp2_with fail
  refine (eqStrS_ok l ha sa hcap sc _ HLM.out H14.out.at S14.out.at).mono ?_
  rintro e w15 ⟨rfl,hb15⟩
  have B15:=xaQ (xbQ B14.out hb15)
  have G15:=xaQ (G14.out.below hb15)
  clear hb15 B14 S14 G14 H14
  go_wp2_with fail
  refine (heldStrS_ok l.length ga gc 1 _ (by omega) (by omega) (by omega) G15.out.at').mono ?_
  rintro e w16 ⟨rfl,hb16⟩
  go_wp2
  go_ret
  exact ⟨rfl,xbQ B15.out hb16⟩
def law_laid:List (String × DataW Unit):=[("math/bits.deBruijn32tab", Rows.laid_math_bits_deBruijn32tab),("math/bits.deBruijn64tab", Rows.laid_math_bits_deBruijn64tab),("internal/strconv.uint64pow10", Rows.laid_internal_strconv_uint64pow10),("errors.errorType", Rows.laid_errors_errorType)]
theorem ztQ (os:Os) (args:Array Value):laidMetH Tryz.prog law_laid ((World.doorLaid Tryz.prog 400 os).forCall (fun _ _=>0) ⟨#[],args,[]⟩).memory :=
 laidMetH_of_parts3 (fuel:=8) (laidMet_of_run' 8 (by kernel_rfl) (by kernel_rfl)) (by kernel_rfl) (by kernel_rfl)
theorem zRQ {W:World} (h:laidMetH Tryz.prog law_laid W):Lib.TabIs Tryz.prog W "internal/strconv.uint64pow10" .u64 Lib.pow10Tab:=by
 have h1:=h.filter (fun x=>x.1 == "internal/strconv.uint64pow10")
 have e:law_laid.filter (fun x=>x.1 == "internal/strconv.uint64pow10")=[("internal/strconv.uint64pow10", Lib.tabData .u64 Lib.pow10Tab)]:=by rfl
 rw [e,MakeChecks.laidMetH_plain _ _ _ (by kernel_rfl)] at h1
 exact Lib.tabIs_of_head (g:=2) (t:=224) (e:=218) (n:=20) (by kernel_rfl) (by kernel_rfl) Tryz.underlying224 Tryz.underlying218 (by kernel_rfl) (by kernel_rfl) h1
theorem law_rt:(Tryz.prog.cutTypes.find? (·.1 == "internal/reflectlite.rtype")).map (·.2)=some 136:=by kernel_rfl
theorem law_one:((List.range Tryz.prog.types.size).filter fun t=>Tryz.prog.rowNamed t [101,114,114,111,114])=[59]:=by kernel_rfl
theorem law_et:Tryz.prog.globalNamed "errors.errorType" = some 0:=by kernel_rfl
theorem law_handle {W:World} (h:laidMetH Tryz.prog law_laid W):W.cell? ⟨0,0,none⟩=some (.iface 136 (.agg #[.pointer (some ⟨5,59,none⟩)])):=by
 have h1:=h.filter (fun x=>x.1 == "errors.errorType")
 have e:law_laid.filter (fun x=>x.1 == "errors.errorType")=[("errors.errorType", Rows.laid_errors_errorType)]:=by rfl
 rw [e] at h1
 have h':laidMet Tryz.prog [] W∧handlesMet Tryz.prog [("errors.errorType", Rows.laid_errors_errorType)] W:=h1
 obtain ⟨name,u,ty,e1,e2,e3,e4,e5⟩:=h'.2 _ (List.mem_singleton.2 rfl)
 have en:name=[101,114,114,111,114]:=(Option.some.inj e1).symm
 subst en
 obtain rfl:=Option.some.inj (law_rt.symm.trans e2)
 have hm:ty∈(List.range Tryz.prog.types.size).filter fun t=>Tryz.prog.rowNamed t [101,114,114,111,114]:=List.mem_filter.2 ⟨List.mem_range.2 e3,e4⟩
 rw [law_one] at hm
 obtain rfl:=List.mem_singleton.1 hm
 have hh:typeHandle Tryz.prog 59=.pointer (some ⟨5,59,none⟩):=by kernel_rfl
 rw [hh] at e5
 simpa using World.var?_cell law_et e5 0
theorem law_lifted (os:Os) (started:os.Started) (H:Type) (enc:TypeId × Value→H) :
 ReturnsInHanded {} Tryz.checked os 6 .any (fun w args=>(Rows.fnExactArraysOfSpec.pre enc Tryz.prog Tryz.f6 [] false w args∧laidMetH Tryz.prog law_laid w)∧sizedMet enc Tryz.prog Tryz.f6 (OpenSpec.ofChange Rows.fnExactArraysOfSpec) false w args)
  (Rows.fnExactArraysOfSpec.post enc Tryz.prog Tryz.f6 false true false false):=by
 refine returnsInHanded_of_change_and (C:=Tryz.checked) (X:=fun w _=>laidMetH Tryz.prog law_laid w) (fun _ _ _ hh h=>h.of_heap hh) Tryz.own started (by kernel_rfl) Tryz.func6
  (ChangeSpec.witness_shaped (enc:=enc) (C:=Tryz.checked) (os:=os) (X:=fun w _=>laidMetH Tryz.prog law_laid w) false (World.doorLaid Tryz.prog 400 os) #[.agg #[.int .i64 0,.string ⟨#[]⟩,.int .i64 0,.slice none 0 0]] 8 rfl (World.shaped_of_RefB (by kernel_rfl) (by kernel_rfl)) (by kernel_rfl) (by kernel_rfl) (by kernel_rfl) (ztQ os _)) ?_
 intro W base args ds gs before hval0 hW _ _ hL _
 have hval:∀ (j:Nat) t v,Tryz.f6.params[j]?=some t→args[j]?=some v→Value.okWide Tryz.prog W .any base t v:=hval0
 have hW':=hW
 obtain ⟨p,q,hA0,hV,rfl,hfz,hnd⟩:=hW
 have hA:DataW.TrodAll enc Tryz.prog W 0 (fun _=>true) true Tryz.f6.params.toList args.toList ds p:=hA0
 rw [Tryz.params6] at hA hval
 obtain ⟨v0,d0,rfl,rfl,h0⟩:=trodAll_one hA
 obtain ⟨rfl,rfl⟩:=trodVars_none hV
 have k0:=h0
 have lt0:∀ x∈p,x.block<W.heap.size:=by obtain ⟨m,hm⟩:=k0;exact DataW.trod_lt m _ _ _ hm
 obtain ⟨c0,c1,c2,c3,y0,y1,y2,y3,m,hv,_,_,hy0,hy1,hy2,hy3⟩:=open_agg4 Tryz.underlying24 (by kernel_rfl) Tryz.cells24 (hval 0 24 v0 rfl rfl) h0
 obtain ⟨x0,e0,_,_⟩:=DataW.trod_int Tryz.underlying3 hy0
 obtain ⟨x1,e1,_,hs⟩:=DataW.trod_string Tryz.underlying9 hy1
 obtain ⟨x2,e2,_,_⟩:=DataW.trod_int Tryz.underlying3 hy2
 obtain ⟨a,c,kk,e3,hn,hk⟩:=open_kids _ (Nat.lt_succ_self _) hy3
 simp at e0 e1 e2
 subst e0 e1 e2 e3 hv
 clear hA0 hval0
 refine (law_walk x0 x1 x2 kk a c W hs hn hk (zRQ hL) (law_handle hL)).mono fun e W' ⟨he,bel⟩=>?_
 subst he
 exact ⟨_,rfl,_,_,_,[],_,[],hW',trodAll_mk1 (shut_bool Tryz.underlying4 _),trodAll_mk1 (Below.trod Tryz.laidOut (by kernel_rfl) (of_decide_eq_true (by kernel_rfl)) k0 bel lt0),rfl,bel.frame _,fun h=>by cases h⟩
theorem law_holds:Rows.FnExactArraysOfSaid :=
 OpenClaim.holds_of_wide 6 Tryz.f6 rfl rfl rfl rfl rfl rfl rfl ⟨rfl,rfl,rfl,rfl,rfl⟩ rfl rfl rfl rfl rfl (by kernel_rfl) Tryz.func6 (by kernel_rfl)
  (of_decide_eq_true (by kernel_rfl)) (by unfold Func.isWrapper;first | (rw [if_pos (by decide +kernel)];kernel_rfl) | (rw [if_neg (by decide +kernel)];exact ⟨rfl,rfl⟩))
  (fun os started H enc _=>law_lifted os started H enc)
theorem card_holds:Rows.FnExactArraysOfCardSaid :=
 Claim7.holds_tied_plain_at .later [] [.data,.data,.data,.handle] true (true, "a85153acc5abff651191a3c37cb51debfaf6d8a90b0c5991a0ca4506e66387ba") true
  law_holds (fun _ h=>by cases h) (by kernel_rfl) (fun _ h=>by cases h) fnExactArraysOf_row_tie rfl ⟨rfl,rfl⟩ (by kernel_rfl) rfl
  (fun f fn hf hfn=>by
   obtain rfl:f=6:=Option.some.inj ((show Tryz.prog.funcNamed "loop.example/g00093/laws.FnExactArraysOf" = some 6 by kernel_rfl).symm.trans hf) |>.symm
   obtain rfl:fn=Tryz.f6:=(Option.some.inj (Tryz.func6.symm.trans hfn)).symm
   exact ⟨by kernel_rfl,fun j t ht=>by
    rw [Tryz.params6] at ht
    have hm:t∈[24]:=by simpa using Array.mem_of_getElem? ht
    have hall:([24].all fun u=>!Tryz.prog.wantsStandIn u)=true:=by kernel_rfl
    exact (show Tryz.prog.wantsStandIn t=false by simpa using List.all_eq_true.1 hall t hm)⟩)
  (by kernel_rfl)
#print axioms card_holds
end Go.Proofs.YtocbgbkdlfkjjaaGreatDoor
