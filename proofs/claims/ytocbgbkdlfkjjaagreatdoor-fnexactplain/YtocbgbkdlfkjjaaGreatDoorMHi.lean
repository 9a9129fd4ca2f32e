/- CONTRACTS of the specification's l02Tight, l02Paren, l02Expr. -/
import Derived.Test.YtocbgbkdlfkjjaaGreatDoorMHh
set_option maxRecDepth 100000
set_option maxHeartbeats 1600000
namespace Go.Proofs.YtocbgbkdlfkjjaaGreatDoor
open Go.RowKit
open Pl
theorem tight_any (k:Int) (w:World):Calls Tryz.prog 147 #[.int .i64 k] w fun e w'=>e=.returned (.int .i64 (yJQ k))∧w=w':=by
 by_cases h6:k=6
 ·subst h6
  go_enter Tryz.func147,Tryz.ntmps147
  go_wp2
  go_ret
  exact ⟨rfl,rfl⟩
 by_cases h7:k=7
 ·subst h7
  go_enter Tryz.func147,Tryz.ntmps147
  go_wp2
  go_ret
  exact ⟨rfl,rfl⟩
 by_cases h8:k=8
 ·subst h8
  go_enter Tryz.func147,Tryz.ntmps147
  go_wp2
  go_ret
  exact ⟨rfl,rfl⟩
 rw [show yJQ k=3 by simp [yJQ,h6,h7,h8]]
 go_enter Tryz.func147,Tryz.ntmps147
 go_wp2
 go_ret
 exact ⟨rfl,rfl⟩
def SEx (t:T):Prop:=match t with
 | .node k s m kk=>∀ (a:Option Addr) (c:Nat) (w:World),Good t→cnt t≤500→Kids w 0 a kk →
  Calls Tryz.prog 92 #[.agg #[.int .i64 k,.string s,.int .i64 m,.slice a kk.length c]] w fun e w'=>e=.returned (.string (exS t))∧Below w.heap.size w w'
theorem paren_of (k m:Int) (s:ByteArray) (kk:List T) (IH:SEx (.node k s m kk)) (a:Option Addr) (c:Nat) (l:Int) (w:World) (hg:Good (.node k s m kk)) (hc:cnt (.node k s m kk)≤500) (hk:Kids w 0 a kk) :
    Calls Tryz.prog 118 #[.agg #[.int .i64 k,.string s,.int .i64 m,.slice a kk.length c],.int .i64 l] w fun e w'=>e=.returned (.string (par k (exS (.node k s m kk)) l))∧Below w.heap.size w w':=by
 have hsz:=xGQ _ hg
 have HI:=xaQ (fun W (hW:Below w.heap.size w W)=>IH a c W hg hc (hk.below hW))
 have B0:=xaQ ((Below.refl w.heap.size w).alloc (Nat.le_refl _) (.cells #[.int .i64 k,.string s,.int .i64 m,.slice a kk.length c] 31))
 have HT:=xaQ (fun W=>tight_any k W)
 have HP:=xaQ (show par k (exS (.node k s m kk)) l=if yJQ k<l then ⟨#[40]⟩++exS (.node k s m kk)++⟨#[41]⟩ else exS (.node k s m kk) from rfl)
 have hA:(exS (.node k s m kk)).size≤1000000000:=by omega
 generalize par k (exS (.node k s m kk)) l=P at HP ⊢
 generalize exS (.node k s m kk)=A at HI HP hA
 generalize yJQ k=tk at HT HP
 clear hg hc hk IH hsz
 have h1:((ByteArray.mk #[40])++A).size=1+A.size:=by rw [ByteArray.size_append];rfl
 go_enter Tryz.func118,Tryz.ntmps118
 go_wp2_with fail
 refine (HT.out _).mono ?_
 rintro e w1 ⟨rfl,rfl⟩
 by_cases h:tk<l
 ·have HG:Hid (P=⟨#[40]⟩++A++⟨#[41]⟩):=xaQ (by rw [HP.out,if_pos h])
  go_wp2_with fail
  refine (HI.out _ B0.out).mono ?_
  rintro e w2 ⟨rfl,hb2⟩
  have B2:=xaQ (xbQ B0.out hb2)
  clear hb2
  go_wp2
  go_ret
  exact ⟨by rw [HG.out];rfl,B2.out⟩
 ·have HG:Hid (P=A):=xaQ (by rw [HP.out,if_neg h])
  go_wp2_with fail
  refine (HI.out _ B0.out).mono ?_
  rintro e w2 ⟨rfl,hb2⟩
  have B2:=xaQ (xbQ B0.out hb2)
  clear hb2
  go_wp2
  go_ret
  exact ⟨by rw [HG.out];rfl,B2.out⟩
theorem sEx_num (s:ByteArray) (n:Nat) (hn:n≤1000000):SEx (.node 1 s n []):=by
 intro a c w hg hc hk
 obtain ⟨hs,_⟩:=xOQ hg
 rw [exS0,show lay 1 s n 0 ⟨#[]⟩ 0 ⟨#[]⟩=dec n by simp [lay]]
 have B0:=xaQ ((Below.refl w.heap.size w).alloc (Nat.le_refl _) (.cells #[.int .i64 1,.string s,.int .i64 n,.slice a 0 c] 31))
 have F0:=xaQ (Four.new w 1 s n a 0 c 31)
 have HD:=xaQ (fun W=>digits_any n W hn)
 clear hg hc hk hs
 show Calls Tryz.prog 92 #[.agg #[.int .i64 1,.string s,.int .i64 n,.slice a 0 c]] w _
 go_enter Tryz.func92,Tryz.ntmps92
 go_wp2_with fail
 refine (HD.out _).mono ?_
 rintro e w2 ⟨rfl,hb2⟩
 have B2:=xaQ (xbQ B0.out hb2)
 clear hb2
 go_wp2
 go_ret
 exact ⟨rfl,B2.out⟩
theorem sEx_var (s:ByteArray) (m:Int):SEx (.node 2 s m []):=by
 intro a c w hg hc hk
 obtain ⟨hs,_⟩:=xOQ hg
 rw [exS0,show lay 2 s m 0 ⟨#[]⟩ 0 ⟨#[]⟩=s by simp [lay]]
 have B0:=xaQ ((Below.refl w.heap.size w).alloc (Nat.le_refl _) (.cells #[.int .i64 2,.string s,.int .i64 m,.slice a 0 c] 31))
 have F0:=xaQ (Four.new w 2 s m a 0 c 31)
 clear hg hc hk
 show Calls Tryz.prog 92 #[.agg #[.int .i64 2,.string s,.int .i64 m,.slice a 0 c]] w _
 go_enter Tryz.func92,Tryz.ntmps92
 go_wp2
 go_ret
 exact ⟨rfl,B0.out⟩
theorem sEx_len (s:ByteArray) (m:Int):SEx (.node 4 s m []):=by
 intro a c w hg hc hk
 obtain ⟨hs,_⟩:=xOQ hg
 rw [exS0,show lay 4 s m 0 ⟨#[]⟩ 0 ⟨#[]⟩=⟨#[108,101,110,40]⟩++s++⟨#[41]⟩ by simp [lay]]
 have B0:=xaQ ((Below.refl w.heap.size w).alloc (Nat.le_refl _) (.cells #[.int .i64 4,.string s,.int .i64 m,.slice a 0 c] 31))
 have F0:=xaQ (Four.new w 4 s m a 0 c 31)
 have h1:((ByteArray.mk #[108,101,110,40])++s).size=4+s.size:=by rw [ByteArray.size_append];rfl
 clear hg hc hk
 show Calls Tryz.prog 92 #[.agg #[.int .i64 4,.string s,.int .i64 m,.slice a 0 c]] w _
 go_enter Tryz.func92,Tryz.ntmps92
 go_wp2
 go_ret
 exact ⟨rfl,B0.out⟩
theorem sEx_cell (s:ByteArray) (m:Int) (x:T) (IX:SEx x) (hx:Good1 x):SEx (.node 3 s m [x]):=by
 intro a c w hg hc hk
 obtain ⟨hs,_⟩:=xOQ hg
 have hA:=xGQ _ hx.good
 have hcx:cnt x≤499:=by simp only [cnt,cnts] at hc;omega
 rw [exS1,show lay 3 s m (xdQ x) (exS x) 0 ⟨#[]⟩=s++⟨#[91]⟩++exS x++⟨#[93]⟩ by simp [lay]]
 rcases hk with h0 | ⟨b,o,rfl,_,hll⟩
 ·cases h0
 obtain ⟨xk,xs,xm,xkk⟩:=x
 obtain ⟨xa,xc,xc0,xc1,xc2,xc3,_,_,xkids⟩:=hll.at (i:=0) (show _=some (T.node xk xs xm xkk) from rfl)
 simp only [Nat.zero_mul,Nat.add_zero] at xc0 xc1 xc2 xc3
 have HX:=xaQ (fun W (hW:Below w.heap.size w W)=>IX xa xc W hx.good (by omega) (xkids.below hW))
 have hA':(exS (.node xk xs xm xkk)).size≤1000000000:=by omega
 generalize exS (.node xk xs xm xkk)=A at HX hA' ⊢
 clear hg hc hll hx hA hcx IX xkids
 have z1:(s++(ByteArray.mk #[91])).size=s.size+1:=by rw [ByteArray.size_append];rfl
 have z2:(s++(ByteArray.mk #[91])++A).size=s.size+1+A.size:=by rw [ByteArray.size_append,z1]
 have k1:¬ 9223372036854775807<s.size+1:=by omega
 have k2:¬ 9223372036854775807<s.size+1+A.size:=by omega
 have k3:¬ 9223372036854775807<s.size+1+A.size+1:=by omega
 have B0:=xaQ ((Below.refl w.heap.size w).alloc (Nat.le_refl _) (.cells #[.int .i64 3,.string s,.int .i64 m,.slice (some ⟨b,o,none⟩) 1 c] 31))
 have F0:=xaQ (Four.new w 3 s m (some ⟨b,o,none⟩) 1 c 31)
 have hbw:=World.block_lt_of_cell? w _ xc0
 have A0:=B0.out
 have nd:∀ q,(w.alloc (.cells #[.int .i64 3,.string s,.int .i64 m,.slice (some ⟨b,o,none⟩) 1 c] 31)).cell? ⟨b,q,none⟩=w.cell? ⟨b,q,none⟩:=fun q=>A0.cell (p:=⟨b,q,none⟩) hbw
 obtain ⟨p0,p1,p2,p3⟩:=F0.out
 have xq0:=(nd _).trans xc0
 have xq1:=(nd _).trans xc1
 have xq2:=(nd _).trans xc2
 have xq3:=(nd _).trans xc3
 clear nd A0 xc0 xc1 xc2 xc3 hbw
 show Calls Tryz.prog 92 #[.agg #[.int .i64 3,.string s,.int .i64 m,.slice (some ⟨b,o,none⟩) 1 c]] w _
 go_enter Tryz.func92,Tryz.ntmps92
 go_wp2_with fail
 generalize w.alloc (.cells #[.int .i64 3,.string s,.int .i64 m,.slice (some ⟨b,o,none⟩) 1 c] 31)=w1 at *
 have l1:w.heap.size<w1.heap.size:=World.block_lt_of_cell? w1 _ p0
 have l2:b<w1.heap.size:=World.block_lt_of_cell? w1 _ xq0
 go_region_held3 (fun w'=>w'.cell? ⟨w.heap.size,0,none⟩=some (.int .i64 3)∧w'.cell? ⟨w.heap.size,1,none⟩=some (.string s)∧w'.cell? ⟨w.heap.size,2,none⟩=some (.int .i64 m)∧w'.cell? ⟨w.heap.size,3,none⟩=some (.slice (some ⟨b,o,none⟩) 1 c)∧w'.cell? ⟨b,o,none⟩=some (.int .i64 xk)∧w'.cell? ⟨b,o+1,none⟩=some (.string xs)∧w'.cell? ⟨b,o+2,none⟩=some (.int .i64 xm)∧w'.cell? ⟨b,o+3,none⟩=some (.slice xa xkk.length xc)) (first | exact ⟨p0,p1,p2,p3,xq0,xq1,xq2,xq3⟩ | exact ⟨(hc _ _ l1).trans p0,(hc _ _ l1).trans p1,(hc _ _ l1).trans p2,(hc _ _ l1).trans p3,(hc _ _ l2).trans xq0,(hc _ _ l2).trans xq1,(hc _ _ l2).trans xq2,(hc _ _ l2).trans xq3⟩) (first | (go_at_call 92;refine (HX.out _ B0.out.drew).mono ?_;rintro e w2 ⟨rfl,hb2⟩;obtain ⟨hc,hf⟩:=ykQ hb2))
 have B2:=xaQ (xbQ B0.out.drew hb2)
 clear hb2 hc hf
 go_wp2
 go_ret
 exact ⟨rfl,B2.out⟩
theorem sEx_neg (s:ByteArray) (m:Int) (x:T) (IX:SEx x) (hx:Good1 x):SEx (.node 5 s m [x]):=by
 intro a c w hg hc hk
 obtain ⟨hs,_⟩:=xOQ hg
 have hA:=xGQ _ hx.good
 have hcx:cnt x≤499:=by simp only [cnt,cnts] at hc;omega
 rw [exS1,show lay 5 s m (xdQ x) (exS x) 0 ⟨#[]⟩=⟨#[45]⟩++par (xdQ x) (exS x) 3 by simp [lay]]
 have hP:=yWQ (xdQ x) (exS x) 3
 rcases hk with h0 | ⟨b,o,rfl,_,hll⟩
 ·cases h0
 obtain ⟨xk,xs,xm,xkk⟩:=x
 obtain ⟨xa,xc,xc0,xc1,xc2,xc3,_,_,xkids⟩:=hll.at (i:=0) (show _=some (T.node xk xs xm xkk) from rfl)
 simp only [Nat.zero_mul,Nat.add_zero] at xc0 xc1 xc2 xc3
 have HX:=xaQ (fun W (hW:Below w.heap.size w W)=>paren_of xk xm xs xkk IX xa xc 3 W hx.good (by omega) (xkids.below hW))
 have hP':(par xk (exS (.node xk xs xm xkk)) 3).size≤1000000002:=by
  have:(par xk (exS (.node xk xs xm xkk)) 3).size≤(exS (.node xk xs xm xkk)).size+2:=hP
  omega
 show Calls _ _ _ _ (fun e w'=>e=.returned (.string (⟨#[45]⟩++par xk (exS (.node xk xs xm xkk)) 3))∧_)
 generalize par xk (exS (.node xk xs xm xkk)) 3=A at HX hP' ⊢
 clear hg hc hll hx hA hcx IX xkids hP
 have B0:=xaQ ((Below.refl w.heap.size w).alloc (Nat.le_refl _) (.cells #[.int .i64 5,.string s,.int .i64 m,.slice (some ⟨b,o,none⟩) 1 c] 31))
 have F0:=xaQ (Four.new w 5 s m (some ⟨b,o,none⟩) 1 c 31)
 have hbw:=World.block_lt_of_cell? w _ xc0
 have A0:=B0.out
 have nd:∀ q,(w.alloc (.cells #[.int .i64 5,.string s,.int .i64 m,.slice (some ⟨b,o,none⟩) 1 c] 31)).cell? ⟨b,q,none⟩=w.cell? ⟨b,q,none⟩:=fun q=>A0.cell (p:=⟨b,q,none⟩) hbw
 obtain ⟨p0,p1,p2,p3⟩:=F0.out
 have xq0:=(nd _).trans xc0
 have xq1:=(nd _).trans xc1
 have xq2:=(nd _).trans xc2
 have xq3:=(nd _).trans xc3
 clear nd A0 xc0 xc1 xc2 xc3 hbw
 show Calls Tryz.prog 92 #[.agg #[.int .i64 5,.string s,.int .i64 m,.slice (some ⟨b,o,none⟩) 1 c]] w _
 go_enter Tryz.func92,Tryz.ntmps92
 go_wp2_with fail
 generalize w.alloc (.cells #[.int .i64 5,.string s,.int .i64 m,.slice (some ⟨b,o,none⟩) 1 c] 31)=w1 at *
 have l1:w.heap.size<w1.heap.size:=World.block_lt_of_cell? w1 _ p0
 have l2:b<w1.heap.size:=World.block_lt_of_cell? w1 _ xq0
 refine (HX.out _ B0.out).mono ?_
 rintro e w2 ⟨rfl,hb2⟩
 have B2:=xaQ (xbQ B0.out hb2)
 clear hb2
 go_wp2
 go_ret
 exact ⟨rfl,B2.out⟩
theorem sEx_pair6 (s:ByteArray) (m:Int) (x y:T) (IX:SEx x) (IY:SEx y) (hx:Good1 x) (hy:Good1 y):SEx (.node 6 s m [x,y]):=by
 intro a c w hg hc hk
 obtain ⟨hs,_⟩:=xOQ hg
 have hA:=xGQ _ hx.good
 have hB:=xGQ _ hy.good
 have hcx:cnt x+cnt y≤499:=by simp only [cnt,cnts] at hc;omega
 rw [exS2,show lay 6 s m (xdQ x) (exS x) (xdQ y) (exS y)=par (xdQ x) (exS x) 1++⟨#[32,43,32]⟩++par (xdQ y) (exS y) 2 by simp [lay]]
 have hP:=yWQ (xdQ x) (exS x) 1
 have hR:=yWQ (xdQ y) (exS y) 2
 rcases hk with h0 | ⟨b,o,rfl,_,hll⟩
 ·cases h0
 obtain ⟨xk,xs,xm,xkk⟩:=x
 obtain ⟨xa,xc,xc0,xc1,xc2,xc3,_,_,xkids⟩:=hll.at (i:=0) (show _=some (T.node xk xs xm xkk) from rfl)
 simp only [Nat.zero_mul,Nat.add_zero] at xc0 xc1 xc2 xc3
 obtain ⟨yk,ys,ym,ykk⟩:=y
 obtain ⟨ya,yc,yc0,yc1,yc2,yc3,_,_,ykids⟩:=hll.at (i:=1) (show _=some (T.node yk ys ym ykk) from rfl)
 simp only [Nat.one_mul] at yc0 yc1 yc2 yc3
 have HX:=xaQ (fun W (hW:Below w.heap.size w W)=>paren_of xk xm xs xkk IX xa xc 1 W hx.good (by omega) (xkids.below hW))
 have HY:=xaQ (fun W (hW:Below w.heap.size w W)=>paren_of yk ym ys ykk IY ya yc 2 W hy.good (by omega) (ykids.below hW))
 have hP':(par xk (exS (.node xk xs xm xkk)) 1).size≤1000000002:=by
  have:(par xk (exS (.node xk xs xm xkk)) 1).size≤(exS (.node xk xs xm xkk)).size+2:=hP
  omega
 have hR':(par yk (exS (.node yk ys ym ykk)) 2).size≤1000000002:=by
  have:(par yk (exS (.node yk ys ym ykk)) 2).size≤(exS (.node yk ys ym ykk)).size+2:=hR
  omega
 show Calls _ _ _ _ (fun e w'=>e=.returned (.string (par xk (exS (.node xk xs xm xkk)) 1++⟨#[32,43,32]⟩++par yk (exS (.node yk ys ym ykk)) 2))∧_)
 generalize par xk (exS (.node xk xs xm xkk)) 1=A at HX hP' ⊢
 generalize par yk (exS (.node yk ys ym ykk)) 2=R at HY hR' ⊢
 clear hg hc hll hx hy hA hB hcx IX IY xkids ykids hP hR
 have z1:(A++(ByteArray.mk #[32,43,32])).size=A.size+3:=by rw [ByteArray.size_append];rfl
 have k1:¬ 9223372036854775807<A.size+3:=by omega
 have k2:¬ 9223372036854775807<A.size+3+R.size:=by omega
 have B0:=xaQ ((Below.refl w.heap.size w).alloc (Nat.le_refl _) (.cells #[.int .i64 6,.string s,.int .i64 m,.slice (some ⟨b,o,none⟩) 2 c] 31))
 have F0:=xaQ (Four.new w 6 s m (some ⟨b,o,none⟩) 2 c 31)
 have hbw:=World.block_lt_of_cell? w _ xc0
 have A0:=B0.out
 have nd:∀ q,(w.alloc (.cells #[.int .i64 6,.string s,.int .i64 m,.slice (some ⟨b,o,none⟩) 2 c] 31)).cell? ⟨b,q,none⟩=w.cell? ⟨b,q,none⟩:=fun q=>A0.cell (p:=⟨b,q,none⟩) hbw
 obtain ⟨p0,p1,p2,p3⟩:=F0.out
 have xq0:=(nd _).trans xc0
 have xq1:=(nd _).trans xc1
 have xq2:=(nd _).trans xc2
 have xq3:=(nd _).trans xc3
 have yq0:=(nd _).trans yc0
 have yq1:=(nd _).trans yc1
 have yq2:=(nd _).trans yc2
 have yq3:=(nd _).trans yc3
 clear nd A0 xc0 xc1 xc2 xc3 yc0 yc1 yc2 yc3 hbw
 show Calls Tryz.prog 92 #[.agg #[.int .i64 6,.string s,.int .i64 m,.slice (some ⟨b,o,none⟩) 2 c]] w _
 go_enter Tryz.func92,Tryz.ntmps92
 go_wp2_with fail
 generalize w.alloc (.cells #[.int .i64 6,.string s,.int .i64 m,.slice (some ⟨b,o,none⟩) 2 c] 31)=w1 at *
 have l1:w.heap.size<w1.heap.size:=World.block_lt_of_cell? w1 _ p0
 have l2:b<w1.heap.size:=World.block_lt_of_cell? w1 _ xq0
 go_region_held3 (fun w'=>w'.cell? ⟨w.heap.size,0,none⟩=some (.int .i64 6)∧w'.cell? ⟨w.heap.size,1,none⟩=some (.string s)∧w'.cell? ⟨w.heap.size,2,none⟩=some (.int .i64 m)∧w'.cell? ⟨w.heap.size,3,none⟩=some (.slice (some ⟨b,o,none⟩) 2 c)∧w'.cell? ⟨b,o,none⟩=some (.int .i64 xk)∧w'.cell? ⟨b,o+1,none⟩=some (.string xs)∧w'.cell? ⟨b,o+2,none⟩=some (.int .i64 xm)∧w'.cell? ⟨b,o+3,none⟩=some (.slice xa xkk.length xc)∧w'.cell? ⟨b,o+4,none⟩=some (.int .i64 yk)∧w'.cell? ⟨b,o+4+1,none⟩=some (.string ys)∧w'.cell? ⟨b,o+4+2,none⟩=some (.int .i64 ym)∧w'.cell? ⟨b,o+4+3,none⟩=some (.slice ya ykk.length yc)) (first | exact ⟨p0,p1,p2,p3,xq0,xq1,xq2,xq3,yq0,yq1,yq2,yq3⟩ | exact ⟨(hc _ _ l1).trans p0,(hc _ _ l1).trans p1,(hc _ _ l1).trans p2,(hc _ _ l1).trans p3,(hc _ _ l2).trans xq0,(hc _ _ l2).trans xq1,(hc _ _ l2).trans xq2,(hc _ _ l2).trans xq3,(hc _ _ l2).trans yq0,(hc _ _ l2).trans yq1,(hc _ _ l2).trans yq2,(hc _ _ l2).trans yq3⟩) (first | (go_at_call_of 118 (Value.agg #[.int .i64 xk,.string xs,.int .i64 xm,.slice xa xkk.length xc]);refine (HX.out _ B0.out.drew).mono ?_;rintro e w2 ⟨rfl,hb2⟩;obtain ⟨hc,hf⟩:=ykQ hb2) | (go_at_call_of 118 (Value.agg #[.int .i64 yk,.string ys,.int .i64 ym,.slice ya ykk.length yc]);refine (HY.out _ (xbQ B0.out.drew hb2)).mono ?_;rintro e w3 ⟨rfl,hb3⟩;obtain ⟨hc',hf'⟩:=ykQ hb3;have hc:=fun (b o:Nat) (h:b<w1.drew.heap.size)=>(hc' b o (Nat.lt_of_lt_of_le h hb2.size)).trans (hc b o h)))
 have B3:=xaQ (xbQ (xbQ B0.out.drew hb2) hb3)
 clear hb2 hb3 hc hc' hf hf'
 go_wp2
 go_ret
 exact ⟨rfl,B3.out⟩
theorem sEx_pair7 (s:ByteArray) (m:Int) (x y:T) (IX:SEx x) (IY:SEx y) (hx:Good1 x) (hy:Good1 y):SEx (.node 7 s m [x,y]):=by
 intro a c w hg hc hk
 obtain ⟨hs,_⟩:=xOQ hg
 have hA:=xGQ _ hx.good
 have hB:=xGQ _ hy.good
 have hcx:cnt x+cnt y≤499:=by simp only [cnt,cnts] at hc;omega
 rw [exS2,show lay 7 s m (xdQ x) (exS x) (xdQ y) (exS y)=par (xdQ x) (exS x) 1++⟨#[32,45,32]⟩++par (xdQ y) (exS y) 2 by simp [lay]]
 have hP:=yWQ (xdQ x) (exS x) 1
 have hR:=yWQ (xdQ y) (exS y) 2
 rcases hk with h0 | ⟨b,o,rfl,_,hll⟩
 ·cases h0
 obtain ⟨xk,xs,xm,xkk⟩:=x
 obtain ⟨xa,xc,xc0,xc1,xc2,xc3,_,_,xkids⟩:=hll.at (i:=0) (show _=some (T.node xk xs xm xkk) from rfl)
 simp only [Nat.zero_mul,Nat.add_zero] at xc0 xc1 xc2 xc3
 obtain ⟨yk,ys,ym,ykk⟩:=y
 obtain ⟨ya,yc,yc0,yc1,yc2,yc3,_,_,ykids⟩:=hll.at (i:=1) (show _=some (T.node yk ys ym ykk) from rfl)
 simp only [Nat.one_mul] at yc0 yc1 yc2 yc3
 have HX:=xaQ (fun W (hW:Below w.heap.size w W)=>paren_of xk xm xs xkk IX xa xc 1 W hx.good (by omega) (xkids.below hW))
 have HY:=xaQ (fun W (hW:Below w.heap.size w W)=>paren_of yk ym ys ykk IY ya yc 2 W hy.good (by omega) (ykids.below hW))
 have hP':(par xk (exS (.node xk xs xm xkk)) 1).size≤1000000002:=by
  have:(par xk (exS (.node xk xs xm xkk)) 1).size≤(exS (.node xk xs xm xkk)).size+2:=hP
  omega
 have hR':(par yk (exS (.node yk ys ym ykk)) 2).size≤1000000002:=by
  have:(par yk (exS (.node yk ys ym ykk)) 2).size≤(exS (.node yk ys ym ykk)).size+2:=hR
  omega
 show Calls _ _ _ _ (fun e w'=>e=.returned (.string (par xk (exS (.node xk xs xm xkk)) 1++⟨#[32,45,32]⟩++par yk (exS (.node yk ys ym ykk)) 2))∧_)
 generalize par xk (exS (.node xk xs xm xkk)) 1=A at HX hP' ⊢
 generalize par yk (exS (.node yk ys ym ykk)) 2=R at HY hR' ⊢
 clear hg hc hll hx hy hA hB hcx IX IY xkids ykids hP hR
 have z1:(A++(ByteArray.mk #[32,45,32])).size=A.size+3:=by rw [ByteArray.size_append];rfl
 have k1:¬ 9223372036854775807<A.size+3:=by omega
 have k2:¬ 9223372036854775807<A.size+3+R.size:=by omega
 have B0:=xaQ ((Below.refl w.heap.size w).alloc (Nat.le_refl _) (.cells #[.int .i64 7,.string s,.int .i64 m,.slice (some ⟨b,o,none⟩) 2 c] 31))
 have F0:=xaQ (Four.new w 7 s m (some ⟨b,o,none⟩) 2 c 31)
 have hbw:=World.block_lt_of_cell? w _ xc0
 have A0:=B0.out
 have nd:∀ q,(w.alloc (.cells #[.int .i64 7,.string s,.int .i64 m,.slice (some ⟨b,o,none⟩) 2 c] 31)).cell? ⟨b,q,none⟩=w.cell? ⟨b,q,none⟩:=fun q=>A0.cell (p:=⟨b,q,none⟩) hbw
 obtain ⟨p0,p1,p2,p3⟩:=F0.out
 have xq0:=(nd _).trans xc0
 have xq1:=(nd _).trans xc1
 have xq2:=(nd _).trans xc2
 have xq3:=(nd _).trans xc3
 have yq0:=(nd _).trans yc0
 have yq1:=(nd _).trans yc1
 have yq2:=(nd _).trans yc2
 have yq3:=(nd _).trans yc3
 clear nd A0 xc0 xc1 xc2 xc3 yc0 yc1 yc2 yc3 hbw
 show Calls Tryz.prog 92 #[.agg #[.int .i64 7,.string s,.int .i64 m,.slice (some ⟨b,o,none⟩) 2 c]] w _
 go_enter Tryz.func92,Tryz.ntmps92
 go_wp2_with fail
 generalize w.alloc (.cells #[.int .i64 7,.string s,.int .i64 m,.slice (some ⟨b,o,none⟩) 2 c] 31)=w1 at *
 have l1:w.heap.size<w1.heap.size:=World.block_lt_of_cell? w1 _ p0
 have l2:b<w1.heap.size:=World.block_lt_of_cell? w1 _ xq0
 go_region_held3 (fun w'=>w'.cell? ⟨w.heap.size,0,none⟩=some (.int .i64 7)∧w'.cell? ⟨w.heap.size,1,none⟩=some (.string s)∧w'.cell? ⟨w.heap.size,2,none⟩=some (.int .i64 m)∧w'.cell? ⟨w.heap.size,3,none⟩=some (.slice (some ⟨b,o,none⟩) 2 c)∧w'.cell? ⟨b,o,none⟩=some (.int .i64 xk)∧w'.cell? ⟨b,o+1,none⟩=some (.string xs)∧w'.cell? ⟨b,o+2,none⟩=some (.int .i64 xm)∧w'.cell? ⟨b,o+3,none⟩=some (.slice xa xkk.length xc)∧w'.cell? ⟨b,o+4,none⟩=some (.int .i64 yk)∧w'.cell? ⟨b,o+4+1,none⟩=some (.string ys)∧w'.cell? ⟨b,o+4+2,none⟩=some (.int .i64 ym)∧w'.cell? ⟨b,o+4+3,none⟩=some (.slice ya ykk.length yc)) (first | exact ⟨p0,p1,p2,p3,xq0,xq1,xq2,xq3,yq0,yq1,yq2,yq3⟩ | exact ⟨(hc _ _ l1).trans p0,(hc _ _ l1).trans p1,(hc _ _ l1).trans p2,(hc _ _ l1).trans p3,(hc _ _ l2).trans xq0,(hc _ _ l2).trans xq1,(hc _ _ l2).trans xq2,(hc _ _ l2).trans xq3,(hc _ _ l2).trans yq0,(hc _ _ l2).trans yq1,(hc _ _ l2).trans yq2,(hc _ _ l2).trans yq3⟩) (first | (go_at_call_of 118 (Value.agg #[.int .i64 xk,.string xs,.int .i64 xm,.slice xa xkk.length xc]);refine (HX.out _ B0.out.drew).mono ?_;rintro e w2 ⟨rfl,hb2⟩;obtain ⟨hc,hf⟩:=ykQ hb2) | (go_at_call_of 118 (Value.agg #[.int .i64 yk,.string ys,.int .i64 ym,.slice ya ykk.length yc]);refine (HY.out _ (xbQ B0.out.drew hb2)).mono ?_;rintro e w3 ⟨rfl,hb3⟩;obtain ⟨hc',hf'⟩:=ykQ hb3;have hc:=fun (b o:Nat) (h:b<w1.drew.heap.size)=>(hc' b o (Nat.lt_of_lt_of_le h hb2.size)).trans (hc b o h)))
 have B3:=xaQ (xbQ (xbQ B0.out.drew hb2) hb3)
 clear hb2 hb3 hc hc' hf hf'
 go_wp2
 go_ret
 exact ⟨rfl,B3.out⟩
theorem sEx_pair8 (s:ByteArray) (m:Int) (x y:T) (IX:SEx x) (IY:SEx y) (hx:Good1 x) (hy:Good1 y):SEx (.node 8 s m [x,y]):=by
 intro a c w hg hc hk
 obtain ⟨hs,_⟩:=xOQ hg
 have hA:=xGQ _ hx.good
 have hB:=xGQ _ hy.good
 have hcx:cnt x+cnt y≤499:=by simp only [cnt,cnts] at hc;omega
 rw [exS2,show lay 8 s m (xdQ x) (exS x) (xdQ y) (exS y)=par (xdQ x) (exS x) 2++⟨#[32,42,32]⟩++par (xdQ y) (exS y) 3 by simp [lay]]
 have hP:=yWQ (xdQ x) (exS x) 2
 have hR:=yWQ (xdQ y) (exS y) 3
 rcases hk with h0 | ⟨b,o,rfl,_,hll⟩
 ·cases h0
 obtain ⟨xk,xs,xm,xkk⟩:=x
 obtain ⟨xa,xc,xc0,xc1,xc2,xc3,_,_,xkids⟩:=hll.at (i:=0) (show _=some (T.node xk xs xm xkk) from rfl)
 simp only [Nat.zero_mul,Nat.add_zero] at xc0 xc1 xc2 xc3
 obtain ⟨yk,ys,ym,ykk⟩:=y
 obtain ⟨ya,yc,yc0,yc1,yc2,yc3,_,_,ykids⟩:=hll.at (i:=1) (show _=some (T.node yk ys ym ykk) from rfl)
 simp only [Nat.one_mul] at yc0 yc1 yc2 yc3
 have HX:=xaQ (fun W (hW:Below w.heap.size w W)=>paren_of xk xm xs xkk IX xa xc 2 W hx.good (by omega) (xkids.below hW))
 have HY:=xaQ (fun W (hW:Below w.heap.size w W)=>paren_of yk ym ys ykk IY ya yc 3 W hy.good (by omega) (ykids.below hW))
 have hP':(par xk (exS (.node xk xs xm xkk)) 2).size≤1000000002:=by
  have:(par xk (exS (.node xk xs xm xkk)) 2).size≤(exS (.node xk xs xm xkk)).size+2:=hP
  omega
 have hR':(par yk (exS (.node yk ys ym ykk)) 3).size≤1000000002:=by
  have:(par yk (exS (.node yk ys ym ykk)) 3).size≤(exS (.node yk ys ym ykk)).size+2:=hR
  omega
 show Calls _ _ _ _ (fun e w'=>e=.returned (.string (par xk (exS (.node xk xs xm xkk)) 2++⟨#[32,42,32]⟩++par yk (exS (.node yk ys ym ykk)) 3))∧_)
 generalize par xk (exS (.node xk xs xm xkk)) 2=A at HX hP' ⊢
 generalize par yk (exS (.node yk ys ym ykk)) 3=R at HY hR' ⊢
 clear hg hc hll hx hy hA hB hcx IX IY xkids ykids hP hR
 have z1:(A++(ByteArray.mk #[32,42,32])).size=A.size+3:=by rw [ByteArray.size_append];rfl
 have k1:¬ 9223372036854775807<A.size+3:=by omega
 have k2:¬ 9223372036854775807<A.size+3+R.size:=by omega
 have B0:=xaQ ((Below.refl w.heap.size w).alloc (Nat.le_refl _) (.cells #[.int .i64 8,.string s,.int .i64 m,.slice (some ⟨b,o,none⟩) 2 c] 31))
 have F0:=xaQ (Four.new w 8 s m (some ⟨b,o,none⟩) 2 c 31)
 have hbw:=World.block_lt_of_cell? w _ xc0
 have A0:=B0.out
 have nd:∀ q,(w.alloc (.cells #[.int .i64 8,.string s,.int .i64 m,.slice (some ⟨b,o,none⟩) 2 c] 31)).cell? ⟨b,q,none⟩=w.cell? ⟨b,q,none⟩:=fun q=>A0.cell (p:=⟨b,q,none⟩) hbw
 obtain ⟨p0,p1,p2,p3⟩:=F0.out
 have xq0:=(nd _).trans xc0
 have xq1:=(nd _).trans xc1
 have xq2:=(nd _).trans xc2
 have xq3:=(nd _).trans xc3
 have yq0:=(nd _).trans yc0
 have yq1:=(nd _).trans yc1
 have yq2:=(nd _).trans yc2
 have yq3:=(nd _).trans yc3
 clear nd A0 xc0 xc1 xc2 xc3 yc0 yc1 yc2 yc3 hbw
 show Calls Tryz.prog 92 #[.agg #[.int .i64 8,.string s,.int .i64 m,.slice (some ⟨b,o,none⟩) 2 c]] w _
 go_enter Tryz.func92,Tryz.ntmps92
 go_wp2_with fail
 generalize w.alloc (.cells #[.int .i64 8,.string s,.int .i64 m,.slice (some ⟨b,o,none⟩) 2 c] 31)=w1 at *
 have l1:w.heap.size<w1.heap.size:=World.block_lt_of_cell? w1 _ p0
 have l2:b<w1.heap.size:=World.block_lt_of_cell? w1 _ xq0
 go_region_held3 (fun w'=>w'.cell? ⟨w.heap.size,0,none⟩=some (.int .i64 8)∧w'.cell? ⟨w.heap.size,1,none⟩=some (.string s)∧w'.cell? ⟨w.heap.size,2,none⟩=some (.int .i64 m)∧w'.cell? ⟨w.heap.size,3,none⟩=some (.slice (some ⟨b,o,none⟩) 2 c)∧w'.cell? ⟨b,o,none⟩=some (.int .i64 xk)∧w'.cell? ⟨b,o+1,none⟩=some (.string xs)∧w'.cell? ⟨b,o+2,none⟩=some (.int .i64 xm)∧w'.cell? ⟨b,o+3,none⟩=some (.slice xa xkk.length xc)∧w'.cell? ⟨b,o+4,none⟩=some (.int .i64 yk)∧w'.cell? ⟨b,o+4+1,none⟩=some (.string ys)∧w'.cell? ⟨b,o+4+2,none⟩=some (.int .i64 ym)∧w'.cell? ⟨b,o+4+3,none⟩=some (.slice ya ykk.length yc)) (first | exact ⟨p0,p1,p2,p3,xq0,xq1,xq2,xq3,yq0,yq1,yq2,yq3⟩ | exact ⟨(hc _ _ l1).trans p0,(hc _ _ l1).trans p1,(hc _ _ l1).trans p2,(hc _ _ l1).trans p3,(hc _ _ l2).trans xq0,(hc _ _ l2).trans xq1,(hc _ _ l2).trans xq2,(hc _ _ l2).trans xq3,(hc _ _ l2).trans yq0,(hc _ _ l2).trans yq1,(hc _ _ l2).trans yq2,(hc _ _ l2).trans yq3⟩) (first | (go_at_call_of 118 (Value.agg #[.int .i64 xk,.string xs,.int .i64 xm,.slice xa xkk.length xc]);refine (HX.out _ B0.out.drew).mono ?_;rintro e w2 ⟨rfl,hb2⟩;obtain ⟨hc,hf⟩:=ykQ hb2) | (go_at_call_of 118 (Value.agg #[.int .i64 yk,.string ys,.int .i64 ym,.slice ya ykk.length yc]);refine (HY.out _ (xbQ B0.out.drew hb2)).mono ?_;rintro e w3 ⟨rfl,hb3⟩;obtain ⟨hc',hf'⟩:=ykQ hb3;have hc:=fun (b o:Nat) (h:b<w1.drew.heap.size)=>(hc' b o (Nat.lt_of_lt_of_le h hb2.size)).trans (hc b o h)))
 have B3:=xaQ (xbQ (xbQ B0.out.drew hb2) hb3)
 clear hb2 hb3 hc hc' hf hf'
 go_wp2
 go_ret
 exact ⟨rfl,B3.out⟩
end Go.Proofs.YtocbgbkdlfkjjaaGreatDoor
