/- CONTRACTS of the printer's expr at nodes with kids, and at numbers. -/
import Derived.Test.YtocbgbkdlfkjjaaGreatDoorMHj
import Derived.Lib.AppendIntMem
set_option maxRecDepth 100000
set_option maxHeartbeats 3200000
namespace Go.Proofs.YtocbgbkdlfkjjaaGreatDoor
open Go.RowKit
open Pl
theorem Around.drew {W0:World} {dp:Int} {B b:Nat} {l:List UInt8} {w:World} (h:Around W0 dp B b l w):Around W0 dp B b l w.drew:=⟨h.pr,h.old.drew,h.lo,h.hi,h.tab⟩
theorem pEx_cell (s:ByteArray) (m:Int) (x:T) (IX:PEx x) (hx:Good1 x):PEx (.node 3 s m [x]):=by
 intro W0 dp B b l a c w hg hc hk har hl
 have hcx:cnt x≤499:=by simp only [cnt,cnts] at hc;omega
 obtain ⟨hs,_⟩:=xOQ hg
 have hT:exT (.node 3 s m [x])=cat [s,⟨#[91]⟩]++exT x++cat [⟨#[93]⟩]:=by unfold exT;rw [exS1];simp [lay,cat]
 rw [hT]
 have hsz:(exS (.node 3 s m [x])).size=s.size+1+(exS x).size+1:=by rw [exS1];simp [lay];rfl
 rw [hsz] at hl
 have hA:(exT x).length=(exS x).size:=(Lib.size_eq _).symm
 rcases hk with h0 | ⟨kb,o,rfl,_,hll⟩
 ·cases h0
 obtain ⟨xk,xs,xm,xkk⟩:=x
 obtain ⟨xa,xc,xc0,xc1,xc2,xc3,_,_,xkids⟩:=hll.at (i:=0) (show _=some (T.node xk xs xm xkk) from rfl)
 simp only [Nat.zero_mul,Nat.add_zero] at xc0 xc1 xc2 xc3
 have xH:=xaQ (And.intro xc0 (And.intro xc1 (And.intro xc2 xc3)))
 have hbw:=World.block_lt_of_cell? W0 _ xc0
 have HF:=xaQ (fun W=>yNQ 3 W (by omega))
 have t56:=ta60_56
 have t58:=ta60_58
 have t59:=ta60_59
 have t60:=ta60_60
 have A0:=har.alloc (.cells #[.int .i64 3,.string s,.int .i64 m,.slice (some ⟨kb,o,none⟩) 1 c] 31)
 have H0:=World.heap_alloc_new w #[.int .i64 3,.string s,.int .i64 m,.slice (some ⟨kb,o,none⟩) 1 c] 31
 have hnb:w.heap.size≠b:=by have:=har.pr.lt;omega
 have hfb:w.heap.size+1≠b:=by have:=har.pr.lt;omega
 show Calls Tryz.prog 162 #[.pointer (some ⟨b,0,none⟩),.agg #[.int .i64 3,.string s,.int .i64 m,.slice (some ⟨kb,o,none⟩) 1 c]] w _
 have A1:=A0.alloc (.cells #[] 185)
 have H1:((w.alloc (.cells #[.int .i64 3,.string s,.int .i64 m,.slice (some ⟨kb,o,none⟩) 1 c] 31)).alloc (.cells #[] 185)).heap[w.heap.size]?=some (.cells #[.int .i64 3,.string s,.int .i64 m,.slice (some ⟨kb,o,none⟩) 1 c] 31 (0,0)):=(Lib.alloc_old _ _ _ (by simp)).trans H0
 have K1:=xaQ ((((Below.refl B w).alloc har.hi (.cells #[.int .i64 3,.string s,.int .i64 m,.slice (some ⟨kb,o,none⟩) 1 c] 31)).alloc (Nat.le_trans har.hi (by simp)) (.cells #[] 185)))
 have O1:=xaQ ((((Lib.OthersKept.refl 5 (some b) w).alloc (.cells #[.int .i64 3,.string s,.int .i64 m,.slice (some ⟨kb,o,none⟩) 1 c] 31)).alloc (.cells #[] 185)))
 have AA:=xaQ A1
 have HH:=xaQ H1
 clear A0 H0 A1 H1 har
 go_enter Tryz.func162,Tryz.ntmps162
 go_wp2_with fail
 refine (HF.out _).mono ?_
 rintro e w1 ⟨rfl,rfl⟩
 rw [show typI 3=185 from rfl,show zSQ 3=.agg #[] from rfl]
 go_wp2_with fail
 refine (xKQ W0 dp B b l [s,⟨#[91]⟩] #[.string s,.string ⟨#[91]⟩] _ _ (by simp) AA.out (by have:=(Lib.size_eq s);simp [cat];omega) (by simp) rfl).mono ?_
 rintro e w2 ⟨rfl,hp,hb,hk2⟩
 have A2:=xaQ (AA.out.step hp hb)
 have H2:=xaQ (xpQ HH.out hnb hk2)
 have K2:=xaQ (K1.out.trans hb)
 have O2:=xaQ (O1.out.trans hk2)
 clear hp hb hk2 AA HH K1 O1
 have c0:w2.cell? ⟨w.heap.size,0,none⟩=some (.int .i64 3):=by rw [Lib.cell_of_heap H2.out];rfl
 have c1:w2.cell? ⟨w.heap.size,1,none⟩=some (.string s):=by rw [Lib.cell_of_heap H2.out];rfl
 have c2:w2.cell? ⟨w.heap.size,2,none⟩=some (.int .i64 m):=by rw [Lib.cell_of_heap H2.out];rfl
 have c3:w2.cell? ⟨w.heap.size,3,none⟩=some (.slice (some ⟨kb,o,none⟩) 1 c):=by rw [Lib.cell_of_heap H2.out];rfl
 have xq0:=(A2.out.old.cell (p:=⟨kb,_,none⟩) hbw).trans xH.out.1
 have xq1:=(A2.out.old.cell (p:=⟨kb,_,none⟩) hbw).trans xH.out.2.1
 have xq2:=(A2.out.old.cell (p:=⟨kb,_,none⟩) hbw).trans xH.out.2.2.1
 have xq3:=(A2.out.old.cell (p:=⟨kb,_,none⟩) hbw).trans xH.out.2.2.2
 go_wp2_with fail
 refine (IX W0 dp B b _ xa xc _ hx.good (by omega) xkids A2.out (by have:=(Lib.size_eq s);simp [cat];omega)).mono ?_
 rintro e w3 ⟨rfl,hp,hb,hk2⟩
 have A3:=xaQ (A2.out.step hp hb)
 have H3:=xaQ (xpQ H2.out hnb hk2)
 have K3:=xaQ (K2.out.trans hb)
 have O3:=xaQ (O2.out.trans hk2)
 clear hp hb hk2 A2 H2 K2 O2
 clear c0 c1 c2 c3 xq0 xq1 xq2 xq3
 go_wp2_with fail
 refine (xKQ W0 dp B b _ [⟨#[93]⟩] #[.string ⟨#[93]⟩] _ _ rfl A3.out (by have:=(Lib.size_eq s);simp [cat];omega) (by simp) rfl).mono ?_
 rintro e w4 ⟨rfl,hp,hb,hk2⟩
 rw [List.append_assoc,List.append_assoc,← List.append_assoc (cat _)] at hp
 have M1:=xaQ hp
 have M2:=xaQ (K3.out.trans hb)
 have M3:=xaQ (O3.out.trans hk2)
 clear hp hb hk2 A3 H3 K3 O3
 go_wp2
 go_end0
 exact ⟨rfl,M1.out,M2.out,M3.out⟩
theorem pEx_neg (s:ByteArray) (m:Int) (x:T) (IX:PEx x) (hx:Good1 x):PEx (.node 5 s m [x]):=by
 intro W0 dp B b l a c w hg hc hk har hl
 have hcx:cnt x≤499:=by simp only [cnt,cnts] at hc;omega
 have hT:exT (.node 5 s m [x])=cat [⟨#[45]⟩]++(par (xdQ x) (exS x) (2+1)).data.toList:=by unfold exT;rw [exS1];simp [lay,cat]
 rw [hT]
 have hsz:(exS (.node 5 s m [x])).size=1+(par (xdQ x) (exS x) (2+1)).size:=by
  rw [exS1,show lay 5 s m (xdQ x) (exS x) 0 ⟨#[]⟩=⟨#[45]⟩++par (xdQ x) (exS x) (2+1) by simp [lay],ByteArray.size_append]
  rfl
 rw [hsz] at hl
 have hl0:l.length+1≤100000000000000:=by omega
 rcases hk with h0 | ⟨kb,o,rfl,_,hll⟩
 ·cases h0
 obtain ⟨xk,xs,xm,xkk⟩:=x
 obtain ⟨xa,xc,xc0,xc1,xc2,xc3,_,_,xkids⟩:=hll.at (i:=0) (show _=some (T.node xk xs xm xkk) from rfl)
 simp only [Nat.zero_mul,Nat.add_zero] at xc0 xc1 xc2 xc3
 have xH:=xaQ (And.intro xc0 (And.intro xc1 (And.intro xc2 xc3)))
 have hbw:=World.block_lt_of_cell? W0 _ xc0
 have HF:=xaQ (fun W=>yNQ 5 W (by omega))
 have t56:=ta61_56
 have t58:=ta61_58
 have t59:=ta61_59
 have t60:=ta61_60
 have t61:=ta61_61
 have A0:=har.alloc (.cells #[.int .i64 5,.string s,.int .i64 m,.slice (some ⟨kb,o,none⟩) 1 c] 31)
 have H0:=World.heap_alloc_new w #[.int .i64 5,.string s,.int .i64 m,.slice (some ⟨kb,o,none⟩) 1 c] 31
 have hnb:w.heap.size≠b:=by have:=har.pr.lt;omega
 have hfb:w.heap.size+1≠b:=by have:=har.pr.lt;omega
 show Calls Tryz.prog 162 #[.pointer (some ⟨b,0,none⟩),.agg #[.int .i64 5,.string s,.int .i64 m,.slice (some ⟨kb,o,none⟩) 1 c]] w _
 have A1:=A0.alloc (.cells #[] 187)
 have H1:((w.alloc (.cells #[.int .i64 5,.string s,.int .i64 m,.slice (some ⟨kb,o,none⟩) 1 c] 31)).alloc (.cells #[] 187)).heap[w.heap.size]?=some (.cells #[.int .i64 5,.string s,.int .i64 m,.slice (some ⟨kb,o,none⟩) 1 c] 31 (0,0)):=(Lib.alloc_old _ _ _ (by simp)).trans H0
 have K1:=xaQ ((((Below.refl B w).alloc har.hi (.cells #[.int .i64 5,.string s,.int .i64 m,.slice (some ⟨kb,o,none⟩) 1 c] 31)).alloc (Nat.le_trans har.hi (by simp)) (.cells #[] 187)))
 have O1:=xaQ ((((Lib.OthersKept.refl 5 (some b) w).alloc (.cells #[.int .i64 5,.string s,.int .i64 m,.slice (some ⟨kb,o,none⟩) 1 c] 31)).alloc (.cells #[] 187)))
 have AA:=xaQ A1
 have HH:=xaQ H1
 clear A0 H0 A1 H1 har
 go_enter Tryz.func162,Tryz.ntmps162
 go_wp2_with fail
 refine (HF.out _).mono ?_
 rintro e w1 ⟨rfl,rfl⟩
 rw [show typI 5=187 from rfl,show zSQ 5=.agg #[] from rfl]
 go_wp2_with fail
 refine (xKQ W0 dp B b l [⟨#[45]⟩] #[.string ⟨#[45]⟩] _ _ (by simp) AA.out (by simp [cat];omega) (by simp) rfl).mono ?_
 rintro e w2 ⟨rfl,hp,hb,hk2⟩
 have A2:=xaQ (AA.out.step hp hb)
 have H2:=xaQ (xpQ HH.out hnb hk2)
 have K2:=xaQ (K1.out.trans hb)
 have O2:=xaQ (O1.out.trans hk2)
 clear hp hb hk2 AA HH K1 O1
 have c0:w2.cell? ⟨w.heap.size,0,none⟩=some (.int .i64 5):=by rw [Lib.cell_of_heap H2.out];rfl
 have c1:w2.cell? ⟨w.heap.size,1,none⟩=some (.string s):=by rw [Lib.cell_of_heap H2.out];rfl
 have c2:w2.cell? ⟨w.heap.size,2,none⟩=some (.int .i64 m):=by rw [Lib.cell_of_heap H2.out];rfl
 have c3:w2.cell? ⟨w.heap.size,3,none⟩=some (.slice (some ⟨kb,o,none⟩) 1 c):=by rw [Lib.cell_of_heap H2.out];rfl
 have xq0:=(A2.out.old.cell (p:=⟨kb,_,none⟩) hbw).trans xH.out.1
 have xq1:=(A2.out.old.cell (p:=⟨kb,_,none⟩) hbw).trans xH.out.2.1
 have xq2:=(A2.out.old.cell (p:=⟨kb,_,none⟩) hbw).trans xH.out.2.2.1
 have xq3:=(A2.out.old.cell (p:=⟨kb,_,none⟩) hbw).trans xH.out.2.2.2
 go_wp2_with fail
 refine (part_of xk xm xs xkk IX W0 dp B b _ xa xc 2 _ hx.good (by omega) xkids A2.out (by have hl9:l.length+(1+(par xk (exS (.node xk xs xm xkk)) (2+1)).size)≤100000000000000:=hl;simp only [List.length_append,show (cat [ByteArray.mk #[45]]).length=1 from rfl];omega)).mono ?_
 rintro e w4 ⟨rfl,hp,hb,hk2⟩
 rw [List.append_assoc] at hp
 have M1:=xaQ hp
 have M2:=xaQ (K2.out.trans hb)
 have M3:=xaQ (O2.out.trans hk2)
 clear hp hb hk2 A2 H2 K2 O2 c0 c1 c2 c3 xq0 xq1 xq2 xq3
 go_wp2
 go_end0
 exact ⟨rfl,M1.out,M2.out,M3.out⟩
theorem pEx_pair6 (s:ByteArray) (m:Int) (x y:T) (IX:PEx x) (IY:PEx y) (hx:Good1 x) (hy:Good1 y):PEx (.node 6 s m [x,y]):=by
 intro W0 dp B b l a c w hg hc hk har hl
 have hcx:cnt x+cnt y≤499:=by simp only [cnt,cnts] at hc;omega
 have hT:exT (.node 6 s m [x,y])=(par (xdQ x) (exS x) (0+1)).data.toList++cat [⟨#[32]⟩,⟨#[43]⟩,⟨#[32]⟩]++(par (xdQ y) (exS y) (1+1)).data.toList:=by unfold exT;rw [exS2];simp [lay,cat]
 rw [hT]
 have hsz:(exS (.node 6 s m [x,y])).size=(par (xdQ x) (exS x) (0+1)).size+3+(par (xdQ y) (exS y) (1+1)).size:=by
  rw [exS2,show lay 6 s m (xdQ x) (exS x) (xdQ y) (exS y)=par (xdQ x) (exS x) (0+1)++⟨#[32,43,32]⟩++par (xdQ y) (exS y) (1+1) by simp [lay],ByteArray.size_append,ByteArray.size_append]
  rfl
 rw [hsz] at hl
 have TI:=xaQ (fun W=>show Calls Tryz.prog 173 #[.int .i64 6] W (fun e w'=>e=.returned (.int .i64 0)∧W=w') from ties_any 6 W)
 rcases hk with h0 | ⟨kb,o,rfl,_,hll⟩
 ·cases h0
 obtain ⟨xk,xs,xm,xkk⟩:=x
 obtain ⟨xa,xc,xc0,xc1,xc2,xc3,_,_,xkids⟩:=hll.at (i:=0) (show _=some (T.node xk xs xm xkk) from rfl)
 simp only [Nat.zero_mul,Nat.add_zero] at xc0 xc1 xc2 xc3
 have xH:=xaQ (And.intro xc0 (And.intro xc1 (And.intro xc2 xc3)))
 obtain ⟨yk,ys,ym,ykk⟩:=y
 obtain ⟨ya,yc,yc0,yc1,yc2,yc3,_,_,ykids⟩:=hll.at (i:=1) (show _=some (T.node yk ys ym ykk) from rfl)
 simp only [Nat.one_mul] at yc0 yc1 yc2 yc3
 have yH:=xaQ (And.intro yc0 (And.intro yc1 (And.intro yc2 yc3)))
 have hbw:=World.block_lt_of_cell? W0 _ xc0
 have HF:=xaQ (fun W=>yNQ 6 W (by omega))
 have t56:=ta64_56 ⟨#[43]⟩
 have t58:=ta64_58 ⟨#[43]⟩
 have t59:=ta64_59 ⟨#[43]⟩
 have t60:=ta64_60 ⟨#[43]⟩
 have t61:=ta64_61 ⟨#[43]⟩
 have t64:=ta64_64 ⟨#[43]⟩
 have A0:=har.alloc (.cells #[.int .i64 6,.string s,.int .i64 m,.slice (some ⟨kb,o,none⟩) 2 c] 31)
 have H0:=World.heap_alloc_new w #[.int .i64 6,.string s,.int .i64 m,.slice (some ⟨kb,o,none⟩) 2 c] 31
 have hnb:w.heap.size≠b:=by have:=har.pr.lt;omega
 have hfb:w.heap.size+1≠b:=by have:=har.pr.lt;omega
 show Calls Tryz.prog 162 #[.pointer (some ⟨b,0,none⟩),.agg #[.int .i64 6,.string s,.int .i64 m,.slice (some ⟨kb,o,none⟩) 2 c]] w _
 have A1:=A0.alloc (.cells #[.string ⟨#[43]⟩] 189)
 have H1:((w.alloc (.cells #[.int .i64 6,.string s,.int .i64 m,.slice (some ⟨kb,o,none⟩) 2 c] 31)).alloc (.cells #[.string ⟨#[43]⟩] 189)).heap[w.heap.size]?=some (.cells #[.int .i64 6,.string s,.int .i64 m,.slice (some ⟨kb,o,none⟩) 2 c] 31 (0,0)):=(Lib.alloc_old _ _ _ (by simp)).trans H0
 have K1:=xaQ ((((Below.refl B w).alloc har.hi (.cells #[.int .i64 6,.string s,.int .i64 m,.slice (some ⟨kb,o,none⟩) 2 c] 31)).alloc (Nat.le_trans har.hi (by simp)) (.cells #[.string ⟨#[43]⟩] 189)))
 have O1:=xaQ ((((Lib.OthersKept.refl 5 (some b) w).alloc (.cells #[.int .i64 6,.string s,.int .i64 m,.slice (some ⟨kb,o,none⟩) 2 c] 31)).alloc (.cells #[.string ⟨#[43]⟩] 189)))
 have FF:=xaQ (World.heap_alloc_new (w.alloc (.cells #[.int .i64 6,.string s,.int .i64 m,.slice (some ⟨kb,o,none⟩) 2 c] 31)) #[.string ⟨#[43]⟩] 189)
 have AA:=xaQ A1
 have HH:=xaQ H1
 clear A0 H0 A1 H1 har
 go_enter Tryz.func162,Tryz.ntmps162
 go_wp2_with fail
 refine (HF.out _).mono ?_
 rintro e w1 ⟨rfl,rfl⟩
 rw [show typI 6=189 from rfl,show zSQ 6=.agg #[.string ⟨#[43]⟩] from rfl]
 go_wp2_with fail
 generalize (w.alloc (.cells #[.int .i64 6,.string s,.int .i64 m,.slice (some ⟨kb,o,none⟩) 2 c] 31)).alloc (.cells #[.string ⟨#[43]⟩] 189)=w1 at *
 have FF':Hid (w1.heap[w.heap.size+1]?=some (.cells #[.string ⟨#[43]⟩] 189 (0,0))):=xaQ (by have:=FF.out;simpa using this)
 clear FF
 have c0:w1.cell? ⟨w.heap.size,0,none⟩=some (.int .i64 6):=by rw [Lib.cell_of_heap HH.out];rfl
 have c1:w1.cell? ⟨w.heap.size,1,none⟩=some (.string s):=by rw [Lib.cell_of_heap HH.out];rfl
 have c2:w1.cell? ⟨w.heap.size,2,none⟩=some (.int .i64 m):=by rw [Lib.cell_of_heap HH.out];rfl
 have c3:w1.cell? ⟨w.heap.size,3,none⟩=some (.slice (some ⟨kb,o,none⟩) 2 c):=by rw [Lib.cell_of_heap HH.out];rfl
 have xq0:=(AA.out.old.cell (p:=⟨kb,_,none⟩) hbw).trans xH.out.1
 have xq1:=(AA.out.old.cell (p:=⟨kb,_,none⟩) hbw).trans xH.out.2.1
 have xq2:=(AA.out.old.cell (p:=⟨kb,_,none⟩) hbw).trans xH.out.2.2.1
 have xq3:=(AA.out.old.cell (p:=⟨kb,_,none⟩) hbw).trans xH.out.2.2.2
 go_region_held3 (fun w'=>w'.cell? ⟨w.heap.size,0,none⟩=some (.int .i64 6)∧w'.cell? ⟨w.heap.size,1,none⟩=some (.string s)∧w'.cell? ⟨w.heap.size,2,none⟩=some (.int .i64 m)∧w'.cell? ⟨w.heap.size,3,none⟩=some (.slice (some ⟨kb,o,none⟩) 2 c)∧w'.cell? ⟨kb,o,none⟩=some (.int .i64 xk)∧w'.cell? ⟨kb,o+1,none⟩=some (.string xs)∧w'.cell? ⟨kb,o+2,none⟩=some (.int .i64 xm)∧w'.cell? ⟨kb,o+3,none⟩=some (.slice xa xkk.length xc)) (first | exact ⟨c0,c1,c2,c3,xq0,xq1,xq2,xq3⟩ | exact ⟨d0,d1,d2,d3,e0,e1,e2,e3⟩) (first | (go_at_call 173;refine (TI.out _).mono ?_;rintro e w9 ⟨rfl,rfl⟩) | (go_at_call 172;refine (part_of xk xm xs xkk IX W0 dp B b _ xa xc 0 _ hx.good (by omega) xkids AA.out.drew (by have hl9:l.length+((par xk (exS (.node xk xs xm xkk)) (0+1)).size+3+(par yk (exS (.node yk ys ym ykk)) (1+1)).size)≤100000000000000:=hl;omega)).mono ?_;rintro e w2 ⟨rfl,hp,hb,hk2⟩;have Hn:=xpQ (w:=w1.drew) HH.out hnb hk2;have d0:w2.cell? ⟨w.heap.size,0,none⟩=some (.int .i64 6):=(by rw [Lib.cell_of_heap Hn];rfl);have d1:w2.cell? ⟨w.heap.size,1,none⟩=some (.string s):=(by rw [Lib.cell_of_heap Hn];rfl);have d2:w2.cell? ⟨w.heap.size,2,none⟩=some (.int .i64 m):=(by rw [Lib.cell_of_heap Hn];rfl);have d3:w2.cell? ⟨w.heap.size,3,none⟩=some (.slice (some ⟨kb,o,none⟩) 2 c):=(by rw [Lib.cell_of_heap Hn];rfl);have An:=AA.out.drew.step hp hb;have e0:=(An.old.cell (p:=⟨kb,_,none⟩) hbw).trans xH.out.1;have e1:=(An.old.cell (p:=⟨kb,_,none⟩) hbw).trans xH.out.2.1;have e2:=(An.old.cell (p:=⟨kb,_,none⟩) hbw).trans xH.out.2.2.1;have e3:=(An.old.cell (p:=⟨kb,_,none⟩) hbw).trans xH.out.2.2.2))
 have A2:=xaQ An
 have H2:=xaQ Hn
 have F2:=xaQ (hk2 _ _ FF'.out (by simpa using hfb) (by simp))
 have K2:=xaQ (K1.out.drew.trans hb)
 have O2:=xaQ (O1.out.drew.trans hk2)
 clear hp hb hk2 Hn An d0 d1 d2 d3 e0 e1 e2 e3 c0 c1 c2 c3 xq0 xq1 xq2 xq3 AA HH FF' K1 O1
 have f0:w2.cell? ⟨w.heap.size+1,0,none⟩=some (.string ⟨#[43]⟩):=by rw [Lib.cell_of_heap F2.out];rfl
 go_wp2_with fail
 refine (xKQ W0 dp B b _ [⟨#[32]⟩,⟨#[43]⟩,⟨#[32]⟩] #[.string ⟨#[32]⟩,.string ⟨#[43]⟩,.string ⟨#[32]⟩] _ _ rfl A2.out (by have hq:=Lib.size_eq (par xk (exS (.node xk xs xm xkk)) (0+1));have hl9:l.length+((par xk (exS (.node xk xs xm xkk)) (0+1)).size+3+(par yk (exS (.node yk ys ym ykk)) (1+1)).size)≤100000000000000:=hl;  simp only [List.length_append,show (cat [ByteArray.mk #[32],ByteArray.mk #[43],ByteArray.mk #[32]]).length=3 from rfl];omega) (by simp) rfl).mono ?_
 rintro e w3 ⟨rfl,hp,hb,hk2⟩
 have A3:=xaQ (A2.out.step hp hb)
 have H3:=xaQ (xpQ H2.out hnb hk2)
 have K3:=xaQ (K2.out.trans hb)
 have O3:=xaQ (O2.out.trans hk2)
 clear hp hb hk2 A2 H2 K2 O2
 clear f0 F2
 have c0:w3.cell? ⟨w.heap.size,0,none⟩=some (.int .i64 6):=by rw [Lib.cell_of_heap H3.out];rfl
 have c1:w3.cell? ⟨w.heap.size,1,none⟩=some (.string s):=by rw [Lib.cell_of_heap H3.out];rfl
 have c2:w3.cell? ⟨w.heap.size,2,none⟩=some (.int .i64 m):=by rw [Lib.cell_of_heap H3.out];rfl
 have c3:w3.cell? ⟨w.heap.size,3,none⟩=some (.slice (some ⟨kb,o,none⟩) 2 c):=by rw [Lib.cell_of_heap H3.out];rfl
 have yq0:=(A3.out.old.cell (p:=⟨kb,_,none⟩) hbw).trans yH.out.1
 have yq1:=(A3.out.old.cell (p:=⟨kb,_,none⟩) hbw).trans yH.out.2.1
 have yq2:=(A3.out.old.cell (p:=⟨kb,_,none⟩) hbw).trans yH.out.2.2.1
 have yq3:=(A3.out.old.cell (p:=⟨kb,_,none⟩) hbw).trans yH.out.2.2.2
 go_wp2_with fail
 go_region_held3 (fun w'=>w'.cell? ⟨w.heap.size,0,none⟩=some (.int .i64 6)∧w'.cell? ⟨w.heap.size,1,none⟩=some (.string s)∧w'.cell? ⟨w.heap.size,2,none⟩=some (.int .i64 m)∧w'.cell? ⟨w.heap.size,3,none⟩=some (.slice (some ⟨kb,o,none⟩) 2 c)∧w'.cell? ⟨kb,o+4,none⟩=some (.int .i64 yk)∧w'.cell? ⟨kb,o+4+1,none⟩=some (.string ys)∧w'.cell? ⟨kb,o+4+2,none⟩=some (.int .i64 ym)∧w'.cell? ⟨kb,o+4+3,none⟩=some (.slice ya ykk.length yc)) (first | exact ⟨c0,c1,c2,c3,yq0,yq1,yq2,yq3⟩ | exact ⟨d0,d1,d2,d3,e0,e1,e2,e3⟩) (first | (go_at_call 173;refine (TI.out _).mono ?_;rintro e w9 ⟨rfl,rfl⟩) | (go_at_call 172;refine (part_of yk ym ys ykk IY W0 dp B b _ ya yc 1 _ hy.good (by omega) ykids A3.out.drew (by have hq:=Lib.size_eq (par xk (exS (.node xk xs xm xkk)) (0+1));have hl9:l.length+((par xk (exS (.node xk xs xm xkk)) (0+1)).size+3+(par yk (exS (.node yk ys ym ykk)) (1+1)).size)≤100000000000000:=hl;simp only [List.length_append,show (cat [ByteArray.mk #[32],ByteArray.mk #[43],ByteArray.mk #[32]]).length=3 from rfl];omega)).mono ?_;rintro e w4 ⟨rfl,hp,hb,hk2⟩;have Hn:=xpQ (w:=w3.drew) H3.out hnb hk2;have d0:w4.cell? ⟨w.heap.size,0,none⟩=some (.int .i64 6):=(by rw [Lib.cell_of_heap Hn];rfl);have d1:w4.cell? ⟨w.heap.size,1,none⟩=some (.string s):=(by rw [Lib.cell_of_heap Hn];rfl);have d2:w4.cell? ⟨w.heap.size,2,none⟩=some (.int .i64 m):=(by rw [Lib.cell_of_heap Hn];rfl);have d3:w4.cell? ⟨w.heap.size,3,none⟩=some (.slice (some ⟨kb,o,none⟩) 2 c):=(by rw [Lib.cell_of_heap Hn];rfl);have An:=A3.out.drew.step hp hb;have e0:=(An.old.cell (p:=⟨kb,_,none⟩) hbw).trans yH.out.1;have e1:=(An.old.cell (p:=⟨kb,_,none⟩) hbw).trans yH.out.2.1;have e2:=(An.old.cell (p:=⟨kb,_,none⟩) hbw).trans yH.out.2.2.1;have e3:=(An.old.cell (p:=⟨kb,_,none⟩) hbw).trans yH.out.2.2.2))
 rw [List.append_assoc,List.append_assoc,← List.append_assoc (par xk _ _).data.toList] at hp
 have M1:=xaQ hp
 have M2:=xaQ (K3.out.drew.trans hb)
 have M3:=xaQ (O3.out.drew.trans hk2)
 clear hp hb hk2 Hn An d0 d1 d2 d3 e0 e1 e2 e3 c0 c1 c2 c3 yq0 yq1 yq2 yq3 A3 H3 K3 O3
 go_wp2
 go_end0
 exact ⟨rfl,M1.out,M2.out,M3.out⟩
theorem pEx_pair7 (s:ByteArray) (m:Int) (x y:T) (IX:PEx x) (IY:PEx y) (hx:Good1 x) (hy:Good1 y):PEx (.node 7 s m [x,y]):=by
 intro W0 dp B b l a c w hg hc hk har hl
 have hcx:cnt x+cnt y≤499:=by simp only [cnt,cnts] at hc;omega
 have hT:exT (.node 7 s m [x,y])=(par (xdQ x) (exS x) (0+1)).data.toList++cat [⟨#[32]⟩,⟨#[45]⟩,⟨#[32]⟩]++(par (xdQ y) (exS y) (1+1)).data.toList:=by unfold exT;rw [exS2];simp [lay,cat]
 rw [hT]
 have hsz:(exS (.node 7 s m [x,y])).size=(par (xdQ x) (exS x) (0+1)).size+3+(par (xdQ y) (exS y) (1+1)).size:=by
  rw [exS2,show lay 7 s m (xdQ x) (exS x) (xdQ y) (exS y)=par (xdQ x) (exS x) (0+1)++⟨#[32,45,32]⟩++par (xdQ y) (exS y) (1+1) by simp [lay],ByteArray.size_append,ByteArray.size_append]
  rfl
 rw [hsz] at hl
 have TI:=xaQ (fun W=>show Calls Tryz.prog 173 #[.int .i64 7] W (fun e w'=>e=.returned (.int .i64 0)∧W=w') from ties_any 7 W)
 rcases hk with h0 | ⟨kb,o,rfl,_,hll⟩
 ·cases h0
 obtain ⟨xk,xs,xm,xkk⟩:=x
 obtain ⟨xa,xc,xc0,xc1,xc2,xc3,_,_,xkids⟩:=hll.at (i:=0) (show _=some (T.node xk xs xm xkk) from rfl)
 simp only [Nat.zero_mul,Nat.add_zero] at xc0 xc1 xc2 xc3
 have xH:=xaQ (And.intro xc0 (And.intro xc1 (And.intro xc2 xc3)))
 obtain ⟨yk,ys,ym,ykk⟩:=y
 obtain ⟨ya,yc,yc0,yc1,yc2,yc3,_,_,ykids⟩:=hll.at (i:=1) (show _=some (T.node yk ys ym ykk) from rfl)
 simp only [Nat.one_mul] at yc0 yc1 yc2 yc3
 have yH:=xaQ (And.intro yc0 (And.intro yc1 (And.intro yc2 yc3)))
 have hbw:=World.block_lt_of_cell? W0 _ xc0
 have HF:=xaQ (fun W=>yNQ 7 W (by omega))
 have t56:=ta64_56 ⟨#[45]⟩
 have t58:=ta64_58 ⟨#[45]⟩
 have t59:=ta64_59 ⟨#[45]⟩
 have t60:=ta64_60 ⟨#[45]⟩
 have t61:=ta64_61 ⟨#[45]⟩
 have t64:=ta64_64 ⟨#[45]⟩
 have A0:=har.alloc (.cells #[.int .i64 7,.string s,.int .i64 m,.slice (some ⟨kb,o,none⟩) 2 c] 31)
 have H0:=World.heap_alloc_new w #[.int .i64 7,.string s,.int .i64 m,.slice (some ⟨kb,o,none⟩) 2 c] 31
 have hnb:w.heap.size≠b:=by have:=har.pr.lt;omega
 have hfb:w.heap.size+1≠b:=by have:=har.pr.lt;omega
 show Calls Tryz.prog 162 #[.pointer (some ⟨b,0,none⟩),.agg #[.int .i64 7,.string s,.int .i64 m,.slice (some ⟨kb,o,none⟩) 2 c]] w _
 have A1:=A0.alloc (.cells #[.string ⟨#[45]⟩] 189)
 have H1:((w.alloc (.cells #[.int .i64 7,.string s,.int .i64 m,.slice (some ⟨kb,o,none⟩) 2 c] 31)).alloc (.cells #[.string ⟨#[45]⟩] 189)).heap[w.heap.size]?=some (.cells #[.int .i64 7,.string s,.int .i64 m,.slice (some ⟨kb,o,none⟩) 2 c] 31 (0,0)):=(Lib.alloc_old _ _ _ (by simp)).trans H0
 have K1:=xaQ ((((Below.refl B w).alloc har.hi (.cells #[.int .i64 7,.string s,.int .i64 m,.slice (some ⟨kb,o,none⟩) 2 c] 31)).alloc (Nat.le_trans har.hi (by simp)) (.cells #[.string ⟨#[45]⟩] 189)))
 have O1:=xaQ ((((Lib.OthersKept.refl 5 (some b) w).alloc (.cells #[.int .i64 7,.string s,.int .i64 m,.slice (some ⟨kb,o,none⟩) 2 c] 31)).alloc (.cells #[.string ⟨#[45]⟩] 189)))
 have FF:=xaQ (World.heap_alloc_new (w.alloc (.cells #[.int .i64 7,.string s,.int .i64 m,.slice (some ⟨kb,o,none⟩) 2 c] 31)) #[.string ⟨#[45]⟩] 189)
 have AA:=xaQ A1
 have HH:=xaQ H1
 clear A0 H0 A1 H1 har
 go_enter Tryz.func162,Tryz.ntmps162
 go_wp2_with fail
 refine (HF.out _).mono ?_
 rintro e w1 ⟨rfl,rfl⟩
 rw [show typI 7=189 from rfl,show zSQ 7=.agg #[.string ⟨#[45]⟩] from rfl]
 go_wp2_with fail
 generalize (w.alloc (.cells #[.int .i64 7,.string s,.int .i64 m,.slice (some ⟨kb,o,none⟩) 2 c] 31)).alloc (.cells #[.string ⟨#[45]⟩] 189)=w1 at *
 have FF':Hid (w1.heap[w.heap.size+1]?=some (.cells #[.string ⟨#[45]⟩] 189 (0,0))):=xaQ (by have:=FF.out;simpa using this)
 clear FF
 have c0:w1.cell? ⟨w.heap.size,0,none⟩=some (.int .i64 7):=by rw [Lib.cell_of_heap HH.out];rfl
 have c1:w1.cell? ⟨w.heap.size,1,none⟩=some (.string s):=by rw [Lib.cell_of_heap HH.out];rfl
 have c2:w1.cell? ⟨w.heap.size,2,none⟩=some (.int .i64 m):=by rw [Lib.cell_of_heap HH.out];rfl
 have c3:w1.cell? ⟨w.heap.size,3,none⟩=some (.slice (some ⟨kb,o,none⟩) 2 c):=by rw [Lib.cell_of_heap HH.out];rfl
 have xq0:=(AA.out.old.cell (p:=⟨kb,_,none⟩) hbw).trans xH.out.1
 have xq1:=(AA.out.old.cell (p:=⟨kb,_,none⟩) hbw).trans xH.out.2.1
 have xq2:=(AA.out.old.cell (p:=⟨kb,_,none⟩) hbw).trans xH.out.2.2.1
 have xq3:=(AA.out.old.cell (p:=⟨kb,_,none⟩) hbw).trans xH.out.2.2.2
 go_region_held3 (fun w'=>w'.cell? ⟨w.heap.size,0,none⟩=some (.int .i64 7)∧w'.cell? ⟨w.heap.size,1,none⟩=some (.string s)∧w'.cell? ⟨w.heap.size,2,none⟩=some (.int .i64 m)∧w'.cell? ⟨w.heap.size,3,none⟩=some (.slice (some ⟨kb,o,none⟩) 2 c)∧w'.cell? ⟨kb,o,none⟩=some (.int .i64 xk)∧w'.cell? ⟨kb,o+1,none⟩=some (.string xs)∧w'.cell? ⟨kb,o+2,none⟩=some (.int .i64 xm)∧w'.cell? ⟨kb,o+3,none⟩=some (.slice xa xkk.length xc)) (first | exact ⟨c0,c1,c2,c3,xq0,xq1,xq2,xq3⟩ | exact ⟨d0,d1,d2,d3,e0,e1,e2,e3⟩) (first | (go_at_call 173;refine (TI.out _).mono ?_;rintro e w9 ⟨rfl,rfl⟩) | (go_at_call 172;refine (part_of xk xm xs xkk IX W0 dp B b _ xa xc 0 _ hx.good (by omega) xkids AA.out.drew (by have hl9:l.length+((par xk (exS (.node xk xs xm xkk)) (0+1)).size+3+(par yk (exS (.node yk ys ym ykk)) (1+1)).size)≤100000000000000:=hl;omega)).mono ?_;rintro e w2 ⟨rfl,hp,hb,hk2⟩;have Hn:=xpQ (w:=w1.drew) HH.out hnb hk2;have d0:w2.cell? ⟨w.heap.size,0,none⟩=some (.int .i64 7):=(by rw [Lib.cell_of_heap Hn];rfl);have d1:w2.cell? ⟨w.heap.size,1,none⟩=some (.string s):=(by rw [Lib.cell_of_heap Hn];rfl);have d2:w2.cell? ⟨w.heap.size,2,none⟩=some (.int .i64 m):=(by rw [Lib.cell_of_heap Hn];rfl);have d3:w2.cell? ⟨w.heap.size,3,none⟩=some (.slice (some ⟨kb,o,none⟩) 2 c):=(by rw [Lib.cell_of_heap Hn];rfl);have An:=AA.out.drew.step hp hb;have e0:=(An.old.cell (p:=⟨kb,_,none⟩) hbw).trans xH.out.1;have e1:=(An.old.cell (p:=⟨kb,_,none⟩) hbw).trans xH.out.2.1;have e2:=(An.old.cell (p:=⟨kb,_,none⟩) hbw).trans xH.out.2.2.1;have e3:=(An.old.cell (p:=⟨kb,_,none⟩) hbw).trans xH.out.2.2.2))
 have A2:=xaQ An
 have H2:=xaQ Hn
 have F2:=xaQ (hk2 _ _ FF'.out (by simpa using hfb) (by simp))
 have K2:=xaQ (K1.out.drew.trans hb)
 have O2:=xaQ (O1.out.drew.trans hk2)
 clear hp hb hk2 Hn An d0 d1 d2 d3 e0 e1 e2 e3 c0 c1 c2 c3 xq0 xq1 xq2 xq3 AA HH FF' K1 O1
 have f0:w2.cell? ⟨w.heap.size+1,0,none⟩=some (.string ⟨#[45]⟩):=by rw [Lib.cell_of_heap F2.out];rfl
 go_wp2_with fail
 refine (xKQ W0 dp B b _ [⟨#[32]⟩,⟨#[45]⟩,⟨#[32]⟩] #[.string ⟨#[32]⟩,.string ⟨#[45]⟩,.string ⟨#[32]⟩] _ _ rfl A2.out (by have hq:=Lib.size_eq (par xk (exS (.node xk xs xm xkk)) (0+1));have hl9:l.length+((par xk (exS (.node xk xs xm xkk)) (0+1)).size+3+(par yk (exS (.node yk ys ym ykk)) (1+1)).size)≤100000000000000:=hl;  simp only [List.length_append,show (cat [ByteArray.mk #[32],ByteArray.mk #[45],ByteArray.mk #[32]]).length=3 from rfl];omega) (by simp) rfl).mono ?_
 rintro e w3 ⟨rfl,hp,hb,hk2⟩
 have A3:=xaQ (A2.out.step hp hb)
 have H3:=xaQ (xpQ H2.out hnb hk2)
 have K3:=xaQ (K2.out.trans hb)
 have O3:=xaQ (O2.out.trans hk2)
 clear hp hb hk2 A2 H2 K2 O2
 clear f0 F2
 have c0:w3.cell? ⟨w.heap.size,0,none⟩=some (.int .i64 7):=by rw [Lib.cell_of_heap H3.out];rfl
 have c1:w3.cell? ⟨w.heap.size,1,none⟩=some (.string s):=by rw [Lib.cell_of_heap H3.out];rfl
 have c2:w3.cell? ⟨w.heap.size,2,none⟩=some (.int .i64 m):=by rw [Lib.cell_of_heap H3.out];rfl
 have c3:w3.cell? ⟨w.heap.size,3,none⟩=some (.slice (some ⟨kb,o,none⟩) 2 c):=by rw [Lib.cell_of_heap H3.out];rfl
 have yq0:=(A3.out.old.cell (p:=⟨kb,_,none⟩) hbw).trans yH.out.1
 have yq1:=(A3.out.old.cell (p:=⟨kb,_,none⟩) hbw).trans yH.out.2.1
 have yq2:=(A3.out.old.cell (p:=⟨kb,_,none⟩) hbw).trans yH.out.2.2.1
 have yq3:=(A3.out.old.cell (p:=⟨kb,_,none⟩) hbw).trans yH.out.2.2.2
 go_wp2_with fail
 go_region_held3 (fun w'=>w'.cell? ⟨w.heap.size,0,none⟩=some (.int .i64 7)∧w'.cell? ⟨w.heap.size,1,none⟩=some (.string s)∧w'.cell? ⟨w.heap.size,2,none⟩=some (.int .i64 m)∧w'.cell? ⟨w.heap.size,3,none⟩=some (.slice (some ⟨kb,o,none⟩) 2 c)∧w'.cell? ⟨kb,o+4,none⟩=some (.int .i64 yk)∧w'.cell? ⟨kb,o+4+1,none⟩=some (.string ys)∧w'.cell? ⟨kb,o+4+2,none⟩=some (.int .i64 ym)∧w'.cell? ⟨kb,o+4+3,none⟩=some (.slice ya ykk.length yc)) (first | exact ⟨c0,c1,c2,c3,yq0,yq1,yq2,yq3⟩ | exact ⟨d0,d1,d2,d3,e0,e1,e2,e3⟩) (first | (go_at_call 173;refine (TI.out _).mono ?_;rintro e w9 ⟨rfl,rfl⟩) | (go_at_call 172;refine (part_of yk ym ys ykk IY W0 dp B b _ ya yc 1 _ hy.good (by omega) ykids A3.out.drew (by have hq:=Lib.size_eq (par xk (exS (.node xk xs xm xkk)) (0+1));have hl9:l.length+((par xk (exS (.node xk xs xm xkk)) (0+1)).size+3+(par yk (exS (.node yk ys ym ykk)) (1+1)).size)≤100000000000000:=hl;simp only [List.length_append,show (cat [ByteArray.mk #[32],ByteArray.mk #[45],ByteArray.mk #[32]]).length=3 from rfl];omega)).mono ?_;rintro e w4 ⟨rfl,hp,hb,hk2⟩;have Hn:=xpQ (w:=w3.drew) H3.out hnb hk2;have d0:w4.cell? ⟨w.heap.size,0,none⟩=some (.int .i64 7):=(by rw [Lib.cell_of_heap Hn];rfl);have d1:w4.cell? ⟨w.heap.size,1,none⟩=some (.string s):=(by rw [Lib.cell_of_heap Hn];rfl);have d2:w4.cell? ⟨w.heap.size,2,none⟩=some (.int .i64 m):=(by rw [Lib.cell_of_heap Hn];rfl);have d3:w4.cell? ⟨w.heap.size,3,none⟩=some (.slice (some ⟨kb,o,none⟩) 2 c):=(by rw [Lib.cell_of_heap Hn];rfl);have An:=A3.out.drew.step hp hb;have e0:=(An.old.cell (p:=⟨kb,_,none⟩) hbw).trans yH.out.1;have e1:=(An.old.cell (p:=⟨kb,_,none⟩) hbw).trans yH.out.2.1;have e2:=(An.old.cell (p:=⟨kb,_,none⟩) hbw).trans yH.out.2.2.1;have e3:=(An.old.cell (p:=⟨kb,_,none⟩) hbw).trans yH.out.2.2.2))
 rw [List.append_assoc,List.append_assoc,← List.append_assoc (par xk _ _).data.toList] at hp
 have M1:=xaQ hp
 have M2:=xaQ (K3.out.drew.trans hb)
 have M3:=xaQ (O3.out.drew.trans hk2)
 clear hp hb hk2 Hn An d0 d1 d2 d3 e0 e1 e2 e3 c0 c1 c2 c3 yq0 yq1 yq2 yq3 A3 H3 K3 O3
 go_wp2
 go_end0
 exact ⟨rfl,M1.out,M2.out,M3.out⟩
theorem pEx_pair8 (s:ByteArray) (m:Int) (x y:T) (IX:PEx x) (IY:PEx y) (hx:Good1 x) (hy:Good1 y):PEx (.node 8 s m [x,y]):=by
 intro W0 dp B b l a c w hg hc hk har hl
 have hcx:cnt x+cnt y≤499:=by simp only [cnt,cnts] at hc;omega
 have hT:exT (.node 8 s m [x,y])=(par (xdQ x) (exS x) (1+1)).data.toList++cat [⟨#[32]⟩,⟨#[42]⟩,⟨#[32]⟩]++(par (xdQ y) (exS y) (2+1)).data.toList:=by unfold exT;rw [exS2];simp [lay,cat]
 rw [hT]
 have hsz:(exS (.node 8 s m [x,y])).size=(par (xdQ x) (exS x) (1+1)).size+3+(par (xdQ y) (exS y) (2+1)).size:=by
  rw [exS2,show lay 8 s m (xdQ x) (exS x) (xdQ y) (exS y)=par (xdQ x) (exS x) (1+1)++⟨#[32,42,32]⟩++par (xdQ y) (exS y) (2+1) by simp [lay],ByteArray.size_append,ByteArray.size_append]
  rfl
 rw [hsz] at hl
 have TI:=xaQ (fun W=>show Calls Tryz.prog 173 #[.int .i64 8] W (fun e w'=>e=.returned (.int .i64 1)∧W=w') from ties_any 8 W)
 rcases hk with h0 | ⟨kb,o,rfl,_,hll⟩
 ·cases h0
 obtain ⟨xk,xs,xm,xkk⟩:=x
 obtain ⟨xa,xc,xc0,xc1,xc2,xc3,_,_,xkids⟩:=hll.at (i:=0) (show _=some (T.node xk xs xm xkk) from rfl)
 simp only [Nat.zero_mul,Nat.add_zero] at xc0 xc1 xc2 xc3
 have xH:=xaQ (And.intro xc0 (And.intro xc1 (And.intro xc2 xc3)))
 obtain ⟨yk,ys,ym,ykk⟩:=y
 obtain ⟨ya,yc,yc0,yc1,yc2,yc3,_,_,ykids⟩:=hll.at (i:=1) (show _=some (T.node yk ys ym ykk) from rfl)
 simp only [Nat.one_mul] at yc0 yc1 yc2 yc3
 have yH:=xaQ (And.intro yc0 (And.intro yc1 (And.intro yc2 yc3)))
 have hbw:=World.block_lt_of_cell? W0 _ xc0
 have HF:=xaQ (fun W=>yNQ 8 W (by omega))
 have t56:=ta64_56 ⟨#[42]⟩
 have t58:=ta64_58 ⟨#[42]⟩
 have t59:=ta64_59 ⟨#[42]⟩
 have t60:=ta64_60 ⟨#[42]⟩
 have t61:=ta64_61 ⟨#[42]⟩
 have t64:=ta64_64 ⟨#[42]⟩
 have A0:=har.alloc (.cells #[.int .i64 8,.string s,.int .i64 m,.slice (some ⟨kb,o,none⟩) 2 c] 31)
 have H0:=World.heap_alloc_new w #[.int .i64 8,.string s,.int .i64 m,.slice (some ⟨kb,o,none⟩) 2 c] 31
 have hnb:w.heap.size≠b:=by have:=har.pr.lt;omega
 have hfb:w.heap.size+1≠b:=by have:=har.pr.lt;omega
 show Calls Tryz.prog 162 #[.pointer (some ⟨b,0,none⟩),.agg #[.int .i64 8,.string s,.int .i64 m,.slice (some ⟨kb,o,none⟩) 2 c]] w _
 have A1:=A0.alloc (.cells #[.string ⟨#[42]⟩] 189)
 have H1:((w.alloc (.cells #[.int .i64 8,.string s,.int .i64 m,.slice (some ⟨kb,o,none⟩) 2 c] 31)).alloc (.cells #[.string ⟨#[42]⟩] 189)).heap[w.heap.size]?=some (.cells #[.int .i64 8,.string s,.int .i64 m,.slice (some ⟨kb,o,none⟩) 2 c] 31 (0,0)):=(Lib.alloc_old _ _ _ (by simp)).trans H0
 have K1:=xaQ ((((Below.refl B w).alloc har.hi (.cells #[.int .i64 8,.string s,.int .i64 m,.slice (some ⟨kb,o,none⟩) 2 c] 31)).alloc (Nat.le_trans har.hi (by simp)) (.cells #[.string ⟨#[42]⟩] 189)))
 have O1:=xaQ ((((Lib.OthersKept.refl 5 (some b) w).alloc (.cells #[.int .i64 8,.string s,.int .i64 m,.slice (some ⟨kb,o,none⟩) 2 c] 31)).alloc (.cells #[.string ⟨#[42]⟩] 189)))
 have FF:=xaQ (World.heap_alloc_new (w.alloc (.cells #[.int .i64 8,.string s,.int .i64 m,.slice (some ⟨kb,o,none⟩) 2 c] 31)) #[.string ⟨#[42]⟩] 189)
 have AA:=xaQ A1
 have HH:=xaQ H1
 clear A0 H0 A1 H1 har
 go_enter Tryz.func162,Tryz.ntmps162
 go_wp2_with fail
 refine (HF.out _).mono ?_
 rintro e w1 ⟨rfl,rfl⟩
 rw [show typI 8=189 from rfl,show zSQ 8=.agg #[.string ⟨#[42]⟩] from rfl]
 go_wp2_with fail
 generalize (w.alloc (.cells #[.int .i64 8,.string s,.int .i64 m,.slice (some ⟨kb,o,none⟩) 2 c] 31)).alloc (.cells #[.string ⟨#[42]⟩] 189)=w1 at *
 have FF':Hid (w1.heap[w.heap.size+1]?=some (.cells #[.string ⟨#[42]⟩] 189 (0,0))):=xaQ (by have:=FF.out;simpa using this)
 clear FF
 have c0:w1.cell? ⟨w.heap.size,0,none⟩=some (.int .i64 8):=by rw [Lib.cell_of_heap HH.out];rfl
 have c1:w1.cell? ⟨w.heap.size,1,none⟩=some (.string s):=by rw [Lib.cell_of_heap HH.out];rfl
 have c2:w1.cell? ⟨w.heap.size,2,none⟩=some (.int .i64 m):=by rw [Lib.cell_of_heap HH.out];rfl
 have c3:w1.cell? ⟨w.heap.size,3,none⟩=some (.slice (some ⟨kb,o,none⟩) 2 c):=by rw [Lib.cell_of_heap HH.out];rfl
 have xq0:=(AA.out.old.cell (p:=⟨kb,_,none⟩) hbw).trans xH.out.1
 have xq1:=(AA.out.old.cell (p:=⟨kb,_,none⟩) hbw).trans xH.out.2.1
 have xq2:=(AA.out.old.cell (p:=⟨kb,_,none⟩) hbw).trans xH.out.2.2.1
 have xq3:=(AA.out.old.cell (p:=⟨kb,_,none⟩) hbw).trans xH.out.2.2.2
 go_region_held3 (fun w'=>w'.cell? ⟨w.heap.size,0,none⟩=some (.int .i64 8)∧w'.cell? ⟨w.heap.size,1,none⟩=some (.string s)∧w'.cell? ⟨w.heap.size,2,none⟩=some (.int .i64 m)∧w'.cell? ⟨w.heap.size,3,none⟩=some (.slice (some ⟨kb,o,none⟩) 2 c)∧w'.cell? ⟨kb,o,none⟩=some (.int .i64 xk)∧w'.cell? ⟨kb,o+1,none⟩=some (.string xs)∧w'.cell? ⟨kb,o+2,none⟩=some (.int .i64 xm)∧w'.cell? ⟨kb,o+3,none⟩=some (.slice xa xkk.length xc)) (first | exact ⟨c0,c1,c2,c3,xq0,xq1,xq2,xq3⟩ | exact ⟨d0,d1,d2,d3,e0,e1,e2,e3⟩) (first | (go_at_call 173;refine (TI.out _).mono ?_;rintro e w9 ⟨rfl,rfl⟩) | (go_at_call 172;refine (part_of xk xm xs xkk IX W0 dp B b _ xa xc 1 _ hx.good (by omega) xkids AA.out.drew (by have hl9:l.length+((par xk (exS (.node xk xs xm xkk)) (1+1)).size+3+(par yk (exS (.node yk ys ym ykk)) (2+1)).size)≤100000000000000:=hl;omega)).mono ?_;rintro e w2 ⟨rfl,hp,hb,hk2⟩;have Hn:=xpQ (w:=w1.drew) HH.out hnb hk2;have d0:w2.cell? ⟨w.heap.size,0,none⟩=some (.int .i64 8):=(by rw [Lib.cell_of_heap Hn];rfl);have d1:w2.cell? ⟨w.heap.size,1,none⟩=some (.string s):=(by rw [Lib.cell_of_heap Hn];rfl);have d2:w2.cell? ⟨w.heap.size,2,none⟩=some (.int .i64 m):=(by rw [Lib.cell_of_heap Hn];rfl);have d3:w2.cell? ⟨w.heap.size,3,none⟩=some (.slice (some ⟨kb,o,none⟩) 2 c):=(by rw [Lib.cell_of_heap Hn];rfl);have An:=AA.out.drew.step hp hb;have e0:=(An.old.cell (p:=⟨kb,_,none⟩) hbw).trans xH.out.1;have e1:=(An.old.cell (p:=⟨kb,_,none⟩) hbw).trans xH.out.2.1;have e2:=(An.old.cell (p:=⟨kb,_,none⟩) hbw).trans xH.out.2.2.1;have e3:=(An.old.cell (p:=⟨kb,_,none⟩) hbw).trans xH.out.2.2.2))
 have A2:=xaQ An
 have H2:=xaQ Hn
 have F2:=xaQ (hk2 _ _ FF'.out (by simpa using hfb) (by simp))
 have K2:=xaQ (K1.out.drew.trans hb)
 have O2:=xaQ (O1.out.drew.trans hk2)
 clear hp hb hk2 Hn An d0 d1 d2 d3 e0 e1 e2 e3 c0 c1 c2 c3 xq0 xq1 xq2 xq3 AA HH FF' K1 O1
 have f0:w2.cell? ⟨w.heap.size+1,0,none⟩=some (.string ⟨#[42]⟩):=by rw [Lib.cell_of_heap F2.out];rfl
 go_wp2_with fail
 refine (xKQ W0 dp B b _ [⟨#[32]⟩,⟨#[42]⟩,⟨#[32]⟩] #[.string ⟨#[32]⟩,.string ⟨#[42]⟩,.string ⟨#[32]⟩] _ _ rfl A2.out (by have hq:=Lib.size_eq (par xk (exS (.node xk xs xm xkk)) (1+1));have hl9:l.length+((par xk (exS (.node xk xs xm xkk)) (1+1)).size+3+(par yk (exS (.node yk ys ym ykk)) (2+1)).size)≤100000000000000:=hl;  simp only [List.length_append,show (cat [ByteArray.mk #[32],ByteArray.mk #[42],ByteArray.mk #[32]]).length=3 from rfl];omega) (by simp) rfl).mono ?_
 rintro e w3 ⟨rfl,hp,hb,hk2⟩
 have A3:=xaQ (A2.out.step hp hb)
 have H3:=xaQ (xpQ H2.out hnb hk2)
 have K3:=xaQ (K2.out.trans hb)
 have O3:=xaQ (O2.out.trans hk2)
 clear hp hb hk2 A2 H2 K2 O2
 clear f0 F2
 have c0:w3.cell? ⟨w.heap.size,0,none⟩=some (.int .i64 8):=by rw [Lib.cell_of_heap H3.out];rfl
 have c1:w3.cell? ⟨w.heap.size,1,none⟩=some (.string s):=by rw [Lib.cell_of_heap H3.out];rfl
 have c2:w3.cell? ⟨w.heap.size,2,none⟩=some (.int .i64 m):=by rw [Lib.cell_of_heap H3.out];rfl
 have c3:w3.cell? ⟨w.heap.size,3,none⟩=some (.slice (some ⟨kb,o,none⟩) 2 c):=by rw [Lib.cell_of_heap H3.out];rfl
 have yq0:=(A3.out.old.cell (p:=⟨kb,_,none⟩) hbw).trans yH.out.1
 have yq1:=(A3.out.old.cell (p:=⟨kb,_,none⟩) hbw).trans yH.out.2.1
 have yq2:=(A3.out.old.cell (p:=⟨kb,_,none⟩) hbw).trans yH.out.2.2.1
 have yq3:=(A3.out.old.cell (p:=⟨kb,_,none⟩) hbw).trans yH.out.2.2.2
 go_wp2_with fail
 go_region_held3 (fun w'=>w'.cell? ⟨w.heap.size,0,none⟩=some (.int .i64 8)∧w'.cell? ⟨w.heap.size,1,none⟩=some (.string s)∧w'.cell? ⟨w.heap.size,2,none⟩=some (.int .i64 m)∧w'.cell? ⟨w.heap.size,3,none⟩=some (.slice (some ⟨kb,o,none⟩) 2 c)∧w'.cell? ⟨kb,o+4,none⟩=some (.int .i64 yk)∧w'.cell? ⟨kb,o+4+1,none⟩=some (.string ys)∧w'.cell? ⟨kb,o+4+2,none⟩=some (.int .i64 ym)∧w'.cell? ⟨kb,o+4+3,none⟩=some (.slice ya ykk.length yc)) (first | exact ⟨c0,c1,c2,c3,yq0,yq1,yq2,yq3⟩ | exact ⟨d0,d1,d2,d3,e0,e1,e2,e3⟩) (first | (go_at_call 173;refine (TI.out _).mono ?_;rintro e w9 ⟨rfl,rfl⟩) | (go_at_call 172;refine (part_of yk ym ys ykk IY W0 dp B b _ ya yc 2 _ hy.good (by omega) ykids A3.out.drew (by have hq:=Lib.size_eq (par xk (exS (.node xk xs xm xkk)) (1+1));have hl9:l.length+((par xk (exS (.node xk xs xm xkk)) (1+1)).size+3+(par yk (exS (.node yk ys ym ykk)) (2+1)).size)≤100000000000000:=hl;simp only [List.length_append,show (cat [ByteArray.mk #[32],ByteArray.mk #[42],ByteArray.mk #[32]]).length=3 from rfl];omega)).mono ?_;rintro e w4 ⟨rfl,hp,hb,hk2⟩;have Hn:=xpQ (w:=w3.drew) H3.out hnb hk2;have d0:w4.cell? ⟨w.heap.size,0,none⟩=some (.int .i64 8):=(by rw [Lib.cell_of_heap Hn];rfl);have d1:w4.cell? ⟨w.heap.size,1,none⟩=some (.string s):=(by rw [Lib.cell_of_heap Hn];rfl);have d2:w4.cell? ⟨w.heap.size,2,none⟩=some (.int .i64 m):=(by rw [Lib.cell_of_heap Hn];rfl);have d3:w4.cell? ⟨w.heap.size,3,none⟩=some (.slice (some ⟨kb,o,none⟩) 2 c):=(by rw [Lib.cell_of_heap Hn];rfl);have An:=A3.out.drew.step hp hb;have e0:=(An.old.cell (p:=⟨kb,_,none⟩) hbw).trans yH.out.1;have e1:=(An.old.cell (p:=⟨kb,_,none⟩) hbw).trans yH.out.2.1;have e2:=(An.old.cell (p:=⟨kb,_,none⟩) hbw).trans yH.out.2.2.1;have e3:=(An.old.cell (p:=⟨kb,_,none⟩) hbw).trans yH.out.2.2.2))
 rw [List.append_assoc,List.append_assoc,← List.append_assoc (par xk _ _).data.toList] at hp
 have M1:=xaQ hp
 have M2:=xaQ (K3.out.drew.trans hb)
 have M3:=xaQ (O3.out.drew.trans hk2)
 clear hp hb hk2 Hn An d0 d1 d2 d3 e0 e1 e2 e3 c0 c1 c2 c3 yq0 yq1 yq2 yq3 A3 H3 K3 O3
 go_wp2
 go_end0
 exact ⟨rfl,M1.out,M2.out,M3.out⟩
theorem heap_new (w:World) (cs:Array Value) (e:TypeId) (tb:Nat) (h:tb=w.heap.size):(w.alloc (.cells cs e)).heap[tb]?=some (.cells cs e (0,0)):=by
 subst h
 exact World.heap_alloc_new w cs e
theorem Around.below {W0:World} {dp:Int} {B b:Nat} {l:List UInt8} {w w':World} (h:Around W0 dp B b l w) (hb:Below w.heap.size w w'):Around W0 dp B b l w' :=
 ⟨h.pr.below hb,h.old.trans (hb.mono (Nat.le_trans h.lo h.hi)),h.lo,Nat.le_trans h.hi hb.size,h.tab⟩
theorem others_below {b:Nat} {a w w':World} (h:Lib.OthersKept 5 (some b) a w) (hb:Below w.heap.size w w'):Lib.OthersKept 5 (some b) a w':=fun k o hk h1 h2=>by
 have h3:=h k o hk h1 h2
 obtain ⟨hlt,_⟩:=Array.getElem?_eq_some_iff.1 h3
 exact (hb.block k hlt).trans h3
theorem typ_cond {k:Int} (h:11≤k∧k≤16):typI k=193:=by
 rcases (by omega:k=11∨k=12∨k=13∨k=14∨k=15∨k=16) with rfl | rfl | rfl | rfl | rfl | rfl <;> rfl
theorem val_cond {k:Int} (h:11≤k∧k≤16):zSQ k=.agg #[.string (yfQ k)]:=by
 unfold zSQ
 rw [if_neg (by omega),if_neg (by omega),if_neg (by omega),if_pos h]
theorem pEx_cond (k:Int) (s:ByteArray) (m:Int) (x y:T) (hkk:11≤k∧k≤16) (IX:PEx x) (IY:PEx y) (hx:Good1 x) (hy:Good1 y):PEx (.node k s m [x,y]):=by
 intro W0 dp B b l a c w hg hc hk har hl
 have hcx:cnt x+cnt y≤499:=by simp only [cnt,cnts] at hc;omega
 have hlay:lay k s m (xdQ x) (exS x) (xdQ y) (exS y)=exS x++⟨#[32]⟩++yfQ k++⟨#[32]⟩++exS y:=by
  unfold lay
  rw [if_neg (by omega),if_neg (by omega),if_neg (by omega),if_neg (by omega),if_neg (by omega),if_neg (by omega),if_neg (by omega),if_neg (by omega)]
 have hT:exT (.node k s m [x,y])=exT x++cat [⟨#[32]⟩,yfQ k,⟨#[32]⟩]++exT y:=by unfold exT;rw [exS2,hlay];simp [cat]
 rw [hT]
 have hsz:(exS (.node k s m [x,y])).size=(exS x).size+1+(yfQ k).size+1+(exS y).size:=by
  rw [exS2,hlay,ByteArray.size_append,ByteArray.size_append,ByteArray.size_append,ByteArray.size_append]
  rfl
 rw [hsz] at hl
 have htyp:=typ_cond hkk
 have hval:=val_cond hkk
 have hF:=fun W=>yNQ k W (.inr hkk)
 rw [htyp,hval] at hF
 have HF:=xaQ hF
 clear hF htyp hval hlay hT hsz
 generalize yfQ k=G at HF hl ⊢
 have hG:(cat [ByteArray.mk #[32],G,ByteArray.mk #[32]]).length=1+G.size+1:=by have:=Lib.size_eq G;simp [cat];omega
 rcases hk with h0 | ⟨kb,o,rfl,_,hll⟩
 ·cases h0
 obtain ⟨xk,xs,xm,xkk⟩:=x
 obtain ⟨xa,xc,xc0,xc1,xc2,xc3,_,_,xkids⟩:=hll.at (i:=0) (show _=some (T.node xk xs xm xkk) from rfl)
 simp only [Nat.zero_mul,Nat.add_zero] at xc0 xc1 xc2 xc3
 have xH:=xaQ (And.intro xc0 (And.intro xc1 (And.intro xc2 xc3)))
 obtain ⟨yk,ys,ym,ykk⟩:=y
 obtain ⟨ya,yc,yc0,yc1,yc2,yc3,_,_,ykids⟩:=hll.at (i:=1) (show _=some (T.node yk ys ym ykk) from rfl)
 simp only [Nat.one_mul] at yc0 yc1 yc2 yc3
 have yH:=xaQ (And.intro yc0 (And.intro yc1 (And.intro yc2 yc3)))
 have hAx:(exT (.node xk xs xm xkk)).length=(exS (.node xk xs xm xkk)).size:=(Lib.size_eq _).symm
 have hbw:=World.block_lt_of_cell? W0 _ xc0
 have t56:=ta66_56 G
 have t58:=ta66_58 G
 have t59:=ta66_59 G
 have t60:=ta66_60 G
 have t61:=ta66_61 G
 have t64:=ta66_64 G
 have t66:=ta66_66 G
 have A0:=har.alloc (.cells #[.int .i64 k,.string s,.int .i64 m,.slice (some ⟨kb,o,none⟩) 2 c] 31)
 have H0:=World.heap_alloc_new w #[.int .i64 k,.string s,.int .i64 m,.slice (some ⟨kb,o,none⟩) 2 c] 31
 have hnb:w.heap.size≠b:=by have:=har.pr.lt;omega
 have hfb:w.heap.size+1≠b:=by have:=har.pr.lt;omega
 show Calls Tryz.prog 162 #[.pointer (some ⟨b,0,none⟩),.agg #[.int .i64 k,.string s,.int .i64 m,.slice (some ⟨kb,o,none⟩) 2 c]] w _
 have A1:=A0.alloc (.cells #[.string G] 193)
 have H1:((w.alloc (.cells #[.int .i64 k,.string s,.int .i64 m,.slice (some ⟨kb,o,none⟩) 2 c] 31)).alloc (.cells #[.string G] 193)).heap[w.heap.size]?=some (.cells #[.int .i64 k,.string s,.int .i64 m,.slice (some ⟨kb,o,none⟩) 2 c] 31 (0,0)):=(Lib.alloc_old _ _ _ (by simp)).trans H0
 have K1:=xaQ ((((Below.refl B w).alloc har.hi (.cells #[.int .i64 k,.string s,.int .i64 m,.slice (some ⟨kb,o,none⟩) 2 c] 31)).alloc (Nat.le_trans har.hi (by simp)) (.cells #[.string G] 193)))
 have O1:=xaQ ((((Lib.OthersKept.refl 5 (some b) w).alloc (.cells #[.int .i64 k,.string s,.int .i64 m,.slice (some ⟨kb,o,none⟩) 2 c] 31)).alloc (.cells #[.string G] 193)))
 have FF:=xaQ (heap_new (w.alloc (.cells #[.int .i64 k,.string s,.int .i64 m,.slice (some ⟨kb,o,none⟩) 2 c] 31)) #[.string G] 193 (w.heap.size+1) (by simp))
 have AA:=xaQ A1
 have HH:=xaQ H1
 clear A0 H0 A1 H1 har
 go_enter Tryz.func162,Tryz.ntmps162
 go_wp2_with fail
 refine (HF.out _).mono ?_
 rintro e w1 ⟨rfl,rfl⟩
 have xq0:=(AA.out.old.cell (p:=⟨kb,_,none⟩) hbw).trans xH.out.1
 have xq1:=(AA.out.old.cell (p:=⟨kb,_,none⟩) hbw).trans xH.out.2.1
 have xq2:=(AA.out.old.cell (p:=⟨kb,_,none⟩) hbw).trans xH.out.2.2.1
 have xq3:=(AA.out.old.cell (p:=⟨kb,_,none⟩) hbw).trans xH.out.2.2.2
 go_wp2_with fail
 refine (IX W0 dp B b l xa xc _ hx.good (by omega) xkids AA.out (by have hl9:l.length+((exS (.node xk xs xm xkk)).size+1+G.size+1+(exS (.node yk ys ym ykk)).size)≤100000000000000:=hl;omega)).mono ?_
 rintro e w2 ⟨rfl,hp,hb,hk2⟩
 have A2:=xaQ (AA.out.step hp hb)
 have H2:=xaQ (xpQ HH.out hnb hk2)
 have K2:=xaQ (K1.out.trans hb)
 have O2:=xaQ (O1.out.trans hk2)
 have F2:=xaQ (show w2.heap[w.heap.size+1]?=some (.cells #[.string G] 193 (0,0)) from hk2 _ _ FF.out (by simpa using hfb) (by simp))
 clear hp hb hk2 AA HH K1 O1 FF xq0 xq1 xq2 xq3
 have f0:w2.cell? ⟨w.heap.size+1,0,none⟩=some (.string G):=by rw [Lib.cell_of_heap F2.out];rfl
 go_wp2_with fail
 refine (xKQ W0 dp B b _ [⟨#[32]⟩,G,⟨#[32]⟩] #[.string ⟨#[32]⟩,.string G,.string ⟨#[32]⟩] _ _ rfl A2.out (by have hl9:l.length+((exS (.node xk xs xm xkk)).size+1+G.size+1+(exS (.node yk ys ym ykk)).size)≤100000000000000:=hl;rw [List.length_append,hG];omega) (by simp) rfl).mono ?_
 rintro e w3 ⟨rfl,hp,hb,hk2⟩
 have A3:=xaQ (A2.out.step hp hb)
 have H3:=xaQ (xpQ H2.out hnb hk2)
 have K3:=xaQ (K2.out.trans hb)
 have O3:=xaQ (O2.out.trans hk2)
 clear hp hb hk2 A2 H2 K2 O2 F2 f0
 have c0:w3.cell? ⟨w.heap.size,0,none⟩=some (.int .i64 k):=by rw [Lib.cell_of_heap H3.out];rfl
 have c1:w3.cell? ⟨w.heap.size,1,none⟩=some (.string s):=by rw [Lib.cell_of_heap H3.out];rfl
 have c2:w3.cell? ⟨w.heap.size,2,none⟩=some (.int .i64 m):=by rw [Lib.cell_of_heap H3.out];rfl
 have c3:w3.cell? ⟨w.heap.size,3,none⟩=some (.slice (some ⟨kb,o,none⟩) 2 c):=by rw [Lib.cell_of_heap H3.out];rfl
 have yq0:=(A3.out.old.cell (p:=⟨kb,_,none⟩) hbw).trans yH.out.1
 have yq1:=(A3.out.old.cell (p:=⟨kb,_,none⟩) hbw).trans yH.out.2.1
 have yq2:=(A3.out.old.cell (p:=⟨kb,_,none⟩) hbw).trans yH.out.2.2.1
 have yq3:=(A3.out.old.cell (p:=⟨kb,_,none⟩) hbw).trans yH.out.2.2.2
 go_wp2_with fail
 refine (IY W0 dp B b _ ya yc _ hy.good (by omega) ykids A3.out (by have hl9:l.length+((exS (.node xk xs xm xkk)).size+1+G.size+1+(exS (.node yk ys ym ykk)).size)≤100000000000000:=hl;rw [List.length_append,List.length_append,hG];omega)).mono ?_
 rintro e w4 ⟨rfl,hp,hb,hk2⟩
 rw [List.append_assoc,List.append_assoc,← List.append_assoc (exT (.node xk xs xm xkk))] at hp
 have M1:=xaQ hp
 have M2:=xaQ (K3.out.trans hb)
 have M3:=xaQ (O3.out.trans hk2)
 clear hp hb hk2 A3 H3 K3 O3 c0 c1 c2 c3 yq0 yq1 yq2 yq3
 go_wp2
 go_end0
 exact ⟨rfl,M1.out,M2.out,M3.out⟩
theorem pEx_num (s:ByteArray) (n:Nat) (hn:n≤1000000):PEx (.node 1 s n []):=by
 intro W0 dp B b l a c w hg hc hk har hl
 have hT:exT (.node 1 s n [])=cat [dec n]:=by unfold exT;rw [exS0];simp [lay,cat]
 rw [hT]
 have hsz:(exS (.node 1 s n [])).size=(dec n).size:=by rw [exS0];simp [lay]
 have HF:=xaQ (fun W=>yNQ 1 W (by omega))
 have t56:=ta56_56
 have A0:=har.alloc (.cells #[.int .i64 1,.string s,.int .i64 n,.slice a 0 c] 31)
 have A1:=A0.alloc (.cells #[] 183)
 obtain ⟨g,hgn⟩:=Option.isSome_iff_exists.1 (show (Tryz.prog.globalNamed "internal/strconv.uint64pow10").isSome=true by kernel_rfl)
 have HI:=xaQ (fun W (hW:Below W0.heap.size W0 W)=>Tryz.strconv_Itoa n (by omega) (by omega) W (Joins.tab_stays hgn har.tab hW (Nat.le_refl _)))
 have hit:(ByteArray.mk (Lib.itoa (n:Int)).toArray)=dec n:=by unfold dec Lib.itoa;rw [if_neg (by omega)];simp
 rw [hit] at HI
 show Calls Tryz.prog 162 #[.pointer (some ⟨b,0,none⟩),.agg #[.int .i64 1,.string s,.int .i64 n,.slice a 0 c]] w _
 have K1:=xaQ ((((Below.refl B w).alloc har.hi (.cells #[.int .i64 1,.string s,.int .i64 n,.slice a 0 c] 31)).alloc (Nat.le_trans har.hi (by simp)) (.cells #[] 183)))
 have O1:=xaQ ((((Lib.OthersKept.refl 5 (some b) w).alloc (.cells #[.int .i64 1,.string s,.int .i64 n,.slice a 0 c] 31)).alloc (.cells #[] 183)))
 have AA:=xaQ A1
 clear A0 A1 hit hgn
 go_enter Tryz.func162,Tryz.ntmps162
 go_wp2_with fail
 refine (HF.out _).mono ?_
 rintro e w1 ⟨rfl,rfl⟩
 rw [show typI 1=183 from rfl,show zSQ 1=.agg #[] from rfl]
 go_wp2_with fail
 refine (HI.out _ AA.out.old).mono ?_
 rintro e w2 ⟨rfl,kd,os,hw2⟩
 have hb2:=Lib.below_grow _ ((w.alloc (.cells #[.int .i64 1,.string s,.int .i64 n,.slice a 0 c] 31)).alloc (.cells #[] 183)) (Nat.le_refl _) kd os
 rw [← hw2] at hb2
 have A2:=xaQ (AA.out.below hb2)
 have K2:=xaQ (K1.out.trans (hb2.mono AA.out.hi))
 have O2:=xaQ (others_below O1.out hb2)
 clear hb2 hw2 AA K1 O1
 go_wp2_with fail
 refine (xKQ W0 dp B b l [dec n] #[.string (dec n)] _ _ rfl A2.out (by rw [← hT];unfold exT;rw [← Lib.size_eq];omega) (by simp) rfl).mono ?_
 rintro e w3 ⟨rfl,hp,hb,hk2⟩
 have M1:=xaQ hp
 have M2:=xaQ (K2.out.trans hb)
 have M3:=xaQ (O2.out.trans hk2)
 clear hp hb hk2 A2 K2 O2
 go_wp2
 go_end0
 exact ⟨rfl,M1.out,M2.out,M3.out⟩
theorem pEx_ok (t:T):PEx t:=by
 refine T.induct ?_ t
 intro k s m kk IH W0 dp B b l a c w hg
 obtain ⟨hs,sh⟩:=xOQ hg
 have go:PEx (.node k s m kk):=by
  cases sh with
  | num h hk h0 h1 =>
   subst h hk
   obtain ⟨n,hn⟩:∃ n:Nat,m=n:=⟨m.toNat,by omega⟩
   subst hn
   exact pEx_num s n (by omega)
  | var h hk=>subst h hk;exact pEx_var s m
  | len h hk=>subst h hk;exact pEx_len s m
  | cell h x hk hx=>subst h hk;exact pEx_cell s m x (IH x (by simp)) hx
  | neg h x hk hx=>subst h hk;exact pEx_neg s m x (IH x (by simp)) hx
  | pair h x y hk hx hy =>
   subst hk
   rcases h with rfl | rfl | rfl
   ·exact pEx_pair6 s m x y (IH x (by simp)) (IH y (by simp)) hx hy
   ·exact pEx_pair7 s m x y (IH x (by simp)) (IH y (by simp)) hx hy
   ·exact pEx_pair8 s m x y (IH x (by simp)) (IH y (by simp)) hx hy
  | cond h x y hk hx hy=>subst hk;exact pEx_cond k s m x y h (IH x (by simp)) (IH y (by simp)) hx hy
 exact go W0 dp B b l a c w hg
end Go.Proofs.YtocbgbkdlfkjjaaGreatDoor
