/- FnExactPlain: the walk. -/
import Derived.Test.YtocbgbkdlfkjjaaGreatDoorMGc
import Derived.Test.YtocbgbkdlfkjjaaGreatDoorMSa
import Derived.OpenShut
set_option maxRecDepth 100000
namespace Go.Proofs.YtocbgbkdlfkjjaaGreatDoor
open Go.ChangeShapes Go.WideShapes Go.ChangeAt Go.RowKit Go.Joins Go.Deep
open Pl
theorem four_atA {w w':World} {b:Nat} {k m:Int} {s:ByteArray} {a:Option Addr} {n c:Nat} (h:Four w b k s m a n c) (hb:w'.heap[b]?=w.heap[b]?):Four w' b k s m a n c :=
 ⟨(World.cell?_of_block (w:=w) hb).trans h.1,(World.cell?_of_block (w:=w) hb).trans h.2.1,(World.cell?_of_block (w:=w) hb).trans h.2.2.1,(World.cell?_of_block (w:=w) hb).trans h.2.2.2⟩
theorem Four.lt {w:World} {b:Nat} {k m:Int} {s:ByteArray} {a:Option Addr} {n c:Nat} (h:Four w b k s m a n c):b<w.heap.size:=World.block_lt_of_cell? w _ h.1
theorem markArg_ok (k:Int) (s:ByteArray) (m:Int) (kk:List T) (lo hi:Nat) (a:Option Addr) (c:Nat) (w:World) (hk:MkK w lo hi a kk) (_:hi≤w.heap.size) (hc:3 * cnts kk≤8000000) :
 Calls Tryz.prog 18 #[.agg #[.int .i64 k,.string s,.int .i64 m,.slice a kk.length c],.int .i64 1] w fun e w'=>e=.returned (.int .i64 (1+3 * cnts kk))∧w'.os=w.os∧w'.tape=w.tape∧w'.output=w.output∧w.heap.size≤w'.heap.size∧∀ b,b<w.heap.size→¬ (lo≤b∧b<hi)→w'.heap[b]?=w.heap[b]?:=by
 have A0:Below w.heap.size w (w.alloc (.cells #[.int .i64 k,.string s,.int .i64 m,.slice a kk.length c] 31)):=(Below.refl _ _).alloc (Nat.le_refl _) _
 have HM:=xaQ ((markNodeS_ok (.node k s m kk)) lo hi a c 1 _ (hk.stay (WroteQ.of_below (L:=0) (lo:=lo) (hi:=hi) A0) (Nat.zero_le _)) (by omega) (by omega))
 have HA:=xaQ A0
 clear A0 hk
 go_enter Tryz.func18,Tryz.ntmps18
 go_wp2_with (go_at_call 48;refine HM.out.mono ?_;rintro e w1 ⟨rfl,ho⟩)
 go_ret
 have hA:=HA.out
 exact ⟨rfl,ho.os.trans hA.os,ho.tape.trans hA.tape,ho.output.trans hA.output,Nat.le_trans hA.size ho.size,fun b hb hn=>(ho.block b (Nat.lt_of_lt_of_le hb hA.size) hn).trans (hA.block b hb)⟩
theorem eq_trees {w:World} (k:Int) (s:ByteArray) (m:Int) (a a':Option Addr) (c c':Nat) (kk kk':List A) (h:Sits w (.node k s m a c kk)) (h':Sits w (.node k s m a' c' kk')) (e:xmQ kk=xmQ kk') :
 Calls Tryz.prog 15 #[.agg #[.int .i64 k,.string s,.int .i64 m,.slice a kk.length c],.agg #[.int .i64 k,.string s,.int .i64 m,.slice a' kk'.length c']] w fun e w'=>e=.returned (.bool true)∧Below w.heap.size w w':=by
 have h1:Kids w 0 a (xmQ kk):=Sits.lies (lo:=0) _ h (fun _ _=>Nat.zero_le _)
 have h2:Kids w 0 a' (xmQ kk'):=Sits.lies (lo:=0) _ h' (fun _ _=>Nat.zero_le _)
 have hn:kk.length≤maxLen:=by simp only [Sits] at h;exact h.2.1
 have:=eqNode_ok (.node k s m (xmQ kk)) a a' c c' w (by rw [xzQ];exact hn) h1 (by rw [e];exact h2)
 rw [xzQ] at this
 have el:kk.length=kk'.length:=by rw [← xzQ kk,e,xzQ]
 rw [← el]
 exact this
structure Keep (w:World) (k:Int) (s:ByteArray) (m:Int) (a:Option Addr) (n c PW PG:Nat) (pk pm:Int) (ps:ByteArray) (xa ya:Option Addr) (xc yc:Nat) (xkk ykk:List A) (w':World):Prop where
 f:Four w' w.heap.size k s m a n c
 g:Four w' PW pk ps pm xa xkk.length xc
 h:Four w' PG pk ps pm ya ykk.length yc
 sx:Sits w' (.node pk ps pm xa xc xkk)
 b:Below w.heap.size w w'
theorem Keep.below {w:World} {k:Int} {s:ByteArray} {m:Int} {a:Option Addr} {n c PW PG:Nat} {pk pm:Int} {ps:ByteArray} {xa ya:Option Addr} {xc yc:Nat} {xkk ykk:List A} {w' w2:World} (K:Keep w k s m a n c PW PG pk pm ps xa ya xc yc xkk ykk w') (b:Below w'.heap.size w' w2):Keep w k s m a n c PW PG pk pm ps xa ya xc yc xkk ykk w2 :=
 ⟨K.f.below b,K.g.below b,K.h.below b,Sits.stay _ (fun q hq=>b.block q (Sits.lt _ K.sx q hq)) K.sx,xbQ K.b b⟩
theorem Keep.wrote {w:World} {k:Int} {s:ByteArray} {m:Int} {a:Option Addr} {n c PW PG:Nat} {pk pm:Int} {ps:ByteArray} {xa ya:Option Addr} {xc yc:Nat} {xkk ykk:List A} {w' w2:World} (K:Keep w k s m a n c PW PG pk pm ps xa ya xc yc xkk ykk w') (h1:w2.os=w'.os) (h2:w2.tape=w'.tape) (h3:w2.output=w'.output) (h4:w'.heap.size≤w2.heap.size) {lo hi:Nat} (h5:∀ q,q<w'.heap.size→¬ (lo≤q∧q<hi)→w2.heap[q]?=w'.heap[q]?)
 (e1:w.heap.size<lo) (e2:PW<lo) (e3:hi≤PG) (e4:∀ q∈(A.node pk ps pm xa xc xkk).foot,q<lo):Keep w k s m a n c PW PG pk pm ps xa ya xc yc xkk ykk w2 :=
 ⟨four_atA K.f (h5 _ K.f.lt (by omega)),four_atA K.g (h5 _ K.g.lt (by omega)),four_atA K.h (h5 _ K.h.lt (by omega)),Sits.stay _ (fun q hq=>h5 q (Sits.lt _ K.sx q hq) (fun e=>by have:=e4 q hq;omega)) K.sx,⟨h1.trans K.b.os,h2.trans K.b.tape,h3.trans K.b.output,Nat.le_trans K.b.size h4,fun q hq=>(h5 q (Nat.lt_of_lt_of_le hq K.b.size) (by omega)).trans (K.b.block q hq)⟩⟩
set_option maxHeartbeats 6400000 in
theorem law_walk (k:Int) (s:ByteArray) (m:Int) (kk:List T) (a:Option Addr) (c:Nat) (w:World) (hs:s.size≤maxLen) (hn:kk.length≤maxLen) (hk:Kids w 0 a kk) (htab:Lib.TabIs Tryz.prog w "internal/strconv.uint64pow10" .u64 Lib.pow10Tab) :
 Calls Tryz.prog 4 #[.agg #[.int .i64 k,.string s,.int .i64 m,.slice a kk.length c]] w fun e w'=>e=.returned (.bool true)∧Below w.heap.size w w':=by
 have HS:=xaQ (And.intro hs hn)
 have HK:=xaQ hk
 have B0:=xaQ ((Below.refl w.heap.size w).alloc (Nat.le_refl _) (.cells #[.int .i64 k,.string s,.int .i64 m,.slice a kk.length c] 24))
 have F0:=xaQ (Four.new w k s m a kk.length c 24)
 obtain ⟨gg,hgn⟩:=Option.isSome_iff_exists.1 (show (Tryz.prog.globalNamed "internal/strconv.uint64pow10").isSome=true by kernel_rfl)
 have HEN:=xaQ (fun W (hW:Below w.heap.size w W)=>Joins.tab_stays hgn htab hW (Nat.le_refl _))
 have hpc:=plain_cnt (.node k s m kk)
 obtain ⟨pt,hpt⟩:∃ q,plainP (.node k s m kk)=q:=⟨_,rfl⟩
 rw [hpt] at hpc
 obtain ⟨pk,ps,pm,pkk⟩:=pt
 have HCN:Hid (1+3 * cnts pkk≤20000):=xaQ (by simp only [cnt] at hpc;omega)
 have HSP:Hid (∀ (a:Option Addr) (c:Nat) (w:World),cnt (.node k s m kk)≤1048577→Kids w 0 a kk→Calls Tryz.prog 16 #[.agg #[.int .i64 k,.string s,.int .i64 m,.slice a kk.length c]] w (TPost (.node pk ps pm pkk) w)):=xaQ (by rw [← hpt];exact fun a c w hc h=>sPlainT_any k s m kk a c w hs hn hc h)
 have HIP:Hid (∀ (a:Option Addr) (c:Nat) (W:World),kk.length≤c→c≤maxLen→Kids W 0 a kk→Below w.heap.size w W→Calls Tryz.prog 17 #[.agg #[.int .i64 k,.string s,.int .i64 m,.slice a kk.length c]] W (TPost (.node pk ps pm pkk) W)):=xaQ (by rw [← hpt];exact fun a c W h1 h2 h hW=>iPlainT_any k s m kk a c W hs hn h1 h2 h (HEN.out W hW))
 clear hs hn hk htab hgn hpt hpc HEN
 go_enter Tryz.func4,Tryz.ntmps4
 go_wp2_with fail
 refine (szNode_ok (.node k s m kk) a c _ _ HS.out.1 HS.out.2 (HK.out.below B0.out) (by omega) (by omega)).mono ?_
 rintro e w1 ⟨⟨r,rfl,hm⟩,hb1⟩
 have B1:=xaQ (xbQ B0.out hb1)
 have F1:=xaQ (F0.out.below hb1)
 have HM:=xaQ hm
 clear hb1 hm F0 B0
 by_cases hr:r<0
 ·go_wp2
  go_ret
  exact ⟨rfl,B1.out⟩
 ·have HZ:Hid (bulk (.node k s m kk)≤1048576):=xaQ (by have:=HM.out;omega)
  have HC:Hid (cnt (.node k s m kk)≤1048577):=xaQ (by have:=HZ.out;have:=cnt_le (.node k s m kk);omega)
  have HC3:Hid (3 * cnts kk≤8000000):=xaQ (by have:=HC.out;simp only [cnt] at this;omega)
  clear HM
  obtain ⟨p0,p1,p2,p3⟩:=F1.out
  go_wp2_with fail
  refine (ygQ (.node k s m kk) a c _ HZ.out (HK.out.below B1.out)).mono ?_
  rintro e w2 ⟨⟨a2,c2,rfl,hk2,_⟩,hb2⟩
  have B2:=xaQ (xbQ B1.out hb2)
  have F2:=xaQ (F1.out.below hb2)
  have K2:=xaQ (hk2.plain.lower (Nat.zero_le _))
  clear hb2 hk2 F1 B1 p0 p1 p2 p3
  go_wp2_with fail
  refine (HSP.out a2 c2 _ HC.out K2.out).mono ?_
  rintro e w3 ⟨x,rfl,hx,hxm,hb3⟩
  obtain ⟨xk,xs,xm,xa,xc,xkk⟩:=x
  simp only [A.erase,T.node.injEq] at hx
  obtain ⟨rfl,rfl,rfl,hx⟩:=hx
  have H_x:=xaQ hx
  have B3:=xaQ (xbQ B2.out hb3)
  have F3:=xaQ (F2.out.below hb3)
  have S3:=xaQ hxm.tree.1
  have hz3:w.heap.size<w3.heap.size:=F3.out.lt
  clear hb3 F2 K2 B2 hxm hx
  simp only [A.val]
  have A3:=xaQ ((Below.refl w3.heap.size w3).alloc (Nat.le_refl _) (.cells #[.int .i64 xk,.string xs,.int .i64 xm,.slice xa xkk.length xc] 31))
  have W3:=xaQ (Four.new w3 xk xs xm xa xkk.length xc 31)
  obtain ⟨p0,p1,p2,p3⟩:=F3.out.below A3.out
  go_wp2_with fail
  refine (ygQ (.node k s m kk) a c _ HZ.out (HK.out.below (xbQ B3.out A3.out))).mono ?_
  rintro e w4 ⟨⟨a4,c4,rfl,hk4,hcap4,hc94⟩,hb4⟩
  have b34:=xbQ A3.out hb4
  have B4:=xaQ (xbQ B3.out b34)
  have F4:=xaQ (F3.out.below b34)
  have W4:=xaQ (W3.out.below hb4)
  have S4:=xaQ (Sits.stay _ (fun q hq=>b34.block q (Sits.lt _ S3.out q hq)) S3.out)
  have HXL:=xaQ (show ∀ q∈(A.node xk xs xm xa xc xkk).foot,q<w3.heap.size from fun q hq=>Sits.lt _ S3.out q hq)
  have K4:=xaQ (hk4.plain.lower (Nat.zero_le _))
  have hlo:(w3.alloc (.cells #[.int .i64 xk,.string xs,.int .i64 xm,.slice xa xkk.length xc] 31)).heap.size=w3.heap.size+1:=by simp
  have M4:Hid (MkK w4 (w3.heap.size+1) w4.heap.size a4 kk):=xaQ (by have:=hk4.mk;rw [hlo] at this;exact this)
  have C4:=xaQ (And.intro hcap4 hc94)
  have z4:w3.heap.size<w4.heap.size:=W4.out.lt
  clear hlo hb4 b34 hk4 hcap4 hc94 F3 p0 p1 p2 p3 S3 A3 W3 B3
  have A4:=xaQ ((Below.refl w4.heap.size w4).alloc (Nat.le_refl _) (.cells #[.int .i64 k,.string s,.int .i64 m,.slice a4 kk.length c4] 31))
  go_wp2_with fail
  refine (HIP.out a4 c4 _ C4.out.1 C4.out.2 (K4.out.below A4.out) (xbQ B4.out A4.out)).mono ?_
  rintro e w5 ⟨y,rfl,hy,hym,hb5⟩
  obtain ⟨yk,ys,ym,ya,yc,ykk⟩:=y
  simp only [A.erase,T.node.injEq] at hy
  obtain ⟨rfl,rfl,rfl,hy⟩:=hy
  have H_y:=xaQ hy
  have hyt:=hym.tree
  have b45:=xbQ A4.out hb5
  have A5:=(Below.refl w5.heap.size w5).alloc (Nat.le_refl _) (.cells #[.int .i64 yk,.string ys,.int .i64 ym,.slice ya ykk.length yc] 31)
  have b46:=xbQ b45 A5
  have z5:w4.heap.size<w5.heap.size:=by have:=hb5.size;simp at this;omega
  have hS5:=Sits.stay _ (fun q hq=>b46.block q (Sits.lt _ S4.out q hq)) S4.out
  have K5:Hid (Keep w k s m a kk.length c w3.heap.size w5.heap.size yk ym ys xa ya xc yc xkk ykk _):=xaQ ⟨F4.out.below b46,W4.out.below b46,Four.new w5 yk ys ym ya ykk.length yc 31,hS5,xbQ B4.out b46⟩
  have X5:=xaQ (((Four.new w4 k s m a4 kk.length c4 31).below hb5).below A5)
  have N5:=xaQ (K4.out.below b46)
  have M5:=xaQ (((M4.out.stay (WroteQ.of_below (L:=0) (lo:=0) (hi:=0) A4.out) (Nat.zero_le _)).stay (WroteQ.of_below (L:=0) (lo:=0) (hi:=0) hb5) (Nat.zero_le _)).stay (WroteQ.of_below (L:=0) (lo:=0) (hi:=0) A5) (Nat.zero_le _))
  have Y5:=xaQ (Sits.stay _ (fun q hq=>A5.block q (Sits.lt _ hyt.1 q hq)) hyt.1)
  have HYN:=xaQ (show (A.node yk ys ym ya yc ykk).foot.Nodup∧∀ q∈(A.node yk ys ym ya yc ykk).foot,w4.heap.size<q∧q<w5.heap.size from ⟨hyt.2.1.1,fun q hq=>⟨by have:=hyt.2.1.2 q hq;simp at this;omega,Sits.lt _ hyt.1 q hq⟩⟩)
  clear hb5 b45 A5 b46 hS5 hyt hym hy A4 F4 B4 K4 M4 S4 W4
  simp only [A.val]
  obtain ⟨g0,g1,g2,g3⟩:=K5.out.g
  obtain ⟨h0,h1,h2,h3⟩:=K5.out.h
  go_wp2_with fail
  refine (eq_trees yk ys ym ya xa yc xc ykk xkk Y5.out K5.out.sx (H_y.out.trans H_x.out.symm)).mono ?_
  rintro e w6 ⟨rfl,hb6⟩
  have K6:=xaQ (K5.out.below hb6)
  have X6:=xaQ (X5.out.below hb6)
  have N6:=xaQ (N5.out.below hb6)
  have M6:=xaQ (M5.out.stay (WroteQ.of_below (L:=0) (lo:=0) (hi:=0) hb6) (Nat.zero_le _))
  have Y6:=xaQ (Sits.stay _ (fun q hq=>hb6.block q (Sits.lt _ Y5.out q hq)) Y5.out)
  have z6:w5.heap.size<w6.heap.size:=K6.out.h.lt
  clear hb6 K5 X5 N5 M5 Y5 g0 g1 g2 g3 h0 h1 h2 h3
  obtain ⟨p0,p1,p2,p3⟩:=K6.out.f
  obtain ⟨q0,q1,q2,q3⟩:=X6.out
  have hlx:w.heap.size<w6.heap.size:=World.block_lt_of_cell? w6 _ p0
  have hly:w4.heap.size<w6.heap.size:=World.block_lt_of_cell? w6 _ q0
  go_wp2_with fail
  go_region_held3 (fun w'=>w'.cell? ⟨w.heap.size,0,none⟩=some (.int .i64 k)∧w'.cell? ⟨w.heap.size,1,none⟩=some (.string s)∧w'.cell? ⟨w.heap.size,2,none⟩=some (.int .i64 m)∧w'.cell? ⟨w.heap.size,3,none⟩=some (.slice a kk.length c)∧w'.cell? ⟨w4.heap.size,0,none⟩=some (.int .i64 k)∧w'.cell? ⟨w4.heap.size,1,none⟩=some (.string s)∧w'.cell? ⟨w4.heap.size,2,none⟩=some (.int .i64 m)∧w'.cell? ⟨w4.heap.size,3,none⟩=some (.slice a4 kk.length c4))
   (first | exact ⟨p0,p1,p2,p3,q0,q1,q2,q3⟩ | exact ⟨(hc _ _ hlx).trans p0,(hc _ _ hlx).trans p1,(hc _ _ hlx).trans p2,(hc _ _ hlx).trans p3,(hc _ _ hly).trans q0,(hc _ _ hly).trans q1,(hc _ _ hly).trans q2,(hc _ _ hly).trans q3⟩)
   (first | (go_at_call 12;refine (ygQ (.node k s m kk) a c _ HZ.out (HK.out.below (K6.out.b).drew)).mono ?_;rintro e w7 ⟨⟨a6,c6,rfl,hk6,_⟩,hb7⟩;obtain ⟨hc,hf⟩:=ykQ hb7) | (go_at_call 15;refine (eqNode_ok (.node k s m kk) a4 a6 c4 c6 _ HS.out.2 ((N6.out.below (Below.refl _ _).drew).below hb7) (hk6.plain.lower (Nat.zero_le _))).mono ?_;rintro e w8 ⟨rfl,hb8⟩;obtain ⟨hc',hf'⟩:=ykQ hb8;have hc:=fun (b o:Nat) (h:b<w6.drew.heap.size)=>(hc' b o (Nat.lt_of_lt_of_le h hb7.size)).trans (hc b o h)))
  have N8:=xaQ (xbQ (xbQ (Below.refl w6.heap.size w6).drew hb7) hb8)
  have K8:=xaQ (K6.out.below N8.out)
  have X8:=xaQ (X6.out.below N8.out)
  have M8:=xaQ (M6.out.stay (WroteQ.of_below (L:=0) (lo:=0) (hi:=0) N8.out) (Nat.zero_le _))
  have Y8:=xaQ (Sits.stay _ (fun q hq=>N8.out.block q (Sits.lt _ Y6.out q hq)) Y6.out)
  have z8:=N8.out.size
  clear hc hc' hf hf' hb7 hb8 hk6 p0 p1 p2 p3 q0 q1 q2 q3 K6 X6 M6 N6 Y6 N8
  obtain ⟨q0,q1,q2,q3⟩:=X8.out
  go_wp2_with fail
  refine (markArg_ok k s m kk (w3.heap.size+1) w4.heap.size a4 c4 _ M8.out (by omega) HC3.out).mono ?_
  rintro e w9 ⟨rfl,ho1,ho2,ho3,ho4,ho5⟩
  have K9:=xaQ (K8.out.wrote ho1 ho2 ho3 ho4 ho5 (by omega) (by omega) (by omega) (fun q hq=>by have:=HXL.out q hq;omega))
  have Y9:=xaQ (Sits.stay _ (fun q hq=>ho5 q (Sits.lt _ Y8.out q hq) (by have:=HYN.out.2 q hq;omega)) Y8.out)
  obtain ⟨r9,hr9⟩:∃ r:Int,1+3 * (cnts kk:Int)=r:=⟨_,rfl⟩
  have hr9':¬ r9<0:=by omega
  rw [hr9]
  clear ho1 ho2 ho3 ho4 ho5 q0 q1 q2 q3 X8 M8 K8 Y8 hr9
  obtain ⟨g0,g1,g2,g3⟩:=K9.out.g
  obtain ⟨h0,h1,h2,h3⟩:=K9.out.h
  go_wp2_with fail
  refine (eq_trees yk ys ym ya xa yc xc ykk xkk Y9.out K9.out.sx (H_y.out.trans H_x.out.symm)).mono ?_
  rintro e w10 ⟨rfl,hb10⟩
  have K10:=xaQ (K9.out.below hb10)
  have Y10:=xaQ (Sits.stay _ (fun q hq=>hb10.block q (Sits.lt _ Y9.out q hq)) Y9.out)
  clear hb10 K9 Y9 g0 g1 g2 g3 h0 h1 h2 h3
  obtain ⟨h0,h1,h2,h3⟩:=K10.out.h
  have hMK:=zOQ yk ys ym ya yc ykk w10 (by rw [H_y.out];exact HCN.out) Y10.out HYN.out.1
  rw [H_y.out] at hMK
  have hHL:=fun (W:World) (hk:Kids W 0 ya (marksT 1 pkk))=>heldNode_ok yk ys ym ya yc pkk W HCN.out (by rw [← H_y.out,xzQ];have:=Y10.out;simp only [Sits] at this;exact this.2.1) hk
  rw [show pkk.length=ykk.length by rw [← H_y.out,xzQ]] at hHL
  have hn0:1+3 * cnts pkk≤20000:=HCN.out
  generalize 1+3 * cnts pkk=N at hMK hHL hn0
  have HHL:=xaQ hHL
  have HMK:=xaQ hMK
  have hneg:decide ((N:Int)<0)=false:=by simp
  clear hHL hMK
  go_wp2_with fail
  refine HMK.out.mono ?_
  rintro e w11 ⟨rfl,g1,g2,g3⟩
  have K11:=xaQ (K10.out.wrote g3.os g3.tape g3.output g3.size (lo:=w4.heap.size+1) (hi:=w5.heap.size) (fun q h1 h2=>g3.block q h1 (fun e=>h2 (by have:=HYN.out.2 q e;omega))) (by omega) (by omega) (by omega) (fun q hq=>by have:=HXL.out q hq;omega))
  have D11:Hid (Kids w11 0 ya (marksT 1 pkk)):=by
   show Kids _ _ _ _
   have hl:=Y10.out
   simp only [Sits] at hl
   have h5:Sits w11 (.node yk ys ym ya yc (marksA 1 ykk)):=by
    simp only [Sits]
    exact ⟨hl.1,by rw [marksA_len];exact hl.2.1,g2,g1⟩
   have:=Sits.lies (lo:=0) _ h5 (fun _ _=>Nat.zero_le _)
   simp only [A.at,A.kids] at this
   rw [marksA_erase,H_y.out] at this
   exact this
  clear g1 g2 g3 K10 Y10 HMK h0 h1 h2 h3
  obtain ⟨h0,h1,h2,h3⟩:=K11.out.h
  go_wp2_with fail
  refine (HHL.out _ D11.out).mono ?_
  rintro e w12 ⟨rfl,b12⟩
  have K12:=xaQ (K11.out.below b12)
  have D12:=xaQ (D11.out.below b12)
  clear b12 K11 D11 h0 h1 h2 h3
  obtain ⟨p0,p1,p2,p3⟩:=K12.out.f
  go_wp2_with fail
  refine (ygQ (.node k s m kk) a c _ HZ.out (HK.out.below K12.out.b)).mono ?_
  rintro e w13 ⟨⟨a13,c13,rfl,hk13,hcap13,hc13⟩,hb13⟩
  have K13:=xaQ (K12.out.below hb13)
  have D13:=xaQ (D12.out.below hb13)
  have L13:=xaQ (hk13.plain.lower (Nat.zero_le _))
  have C13:=xaQ (And.intro hcap13 hc13)
  clear hb13 hk13 hcap13 hc13 p0 p1 p2 p3 K12 D12
  go_wp2_with fail
  refine (HIP.out a13 c13 _ C13.out.1 C13.out.2 L13.out K13.out.b).mono ?_
  rintro e w14 ⟨z,rfl,hz,hzm,hb14⟩
  obtain ⟨zk,zs,zm,za,zc,zkk⟩:=z
  simp only [A.erase,T.node.injEq] at hz
  obtain ⟨rfl,rfl,rfl,hz⟩:=hz
  have H_z:=xaQ hz
  have A14:=(Below.refl w14.heap.size w14).alloc (Nat.le_refl _) (.cells #[.int .i64 zk,.string zs,.int .i64 zm,.slice za zkk.length zc] 31)
  have b14:=xbQ hb14 A14
  have K14:=xaQ (K13.out.below b14)
  have D14:=xaQ (D13.out.below b14)
  have Z14:=xaQ (Sits.stay _ (fun q hq=>A14.block q (Sits.lt _ hzm.tree.1 q hq)) hzm.tree.1)
  clear hb14 b14 A14 hz hzm K13 D13 L13 C13
  obtain ⟨g0,g1,g2,g3⟩:=K14.out.g
  simp only [A.val]
  go_wp2_with fail
  refine (eq_trees zk zs zm za xa zc xc zkk xkk Z14.out K14.out.sx (H_z.out.trans H_x.out.symm)).mono ?_
  rintro e w15 ⟨rfl,hb15⟩
  have K15:=xaQ (K14.out.below hb15)
  have D15:=xaQ (D14.out.below hb15)
  clear hb15 K14 D14 Z14 g0 g1 g2 g3
  obtain ⟨h0,h1,h2,h3⟩:=K15.out.h
  go_wp2_with fail
  refine (HHL.out _ D15.out).mono ?_
  rintro e w16 ⟨rfl,b16⟩
  have B16:=xaQ (xbQ K15.out.b b16)
  clear b16 K15 D15 h0 h1 h2 h3
  go_wp2
  go_ret
  exact ⟨rfl,B16.out⟩
end Go.Proofs.YtocbgbkdlfkjjaaGreatDoor
