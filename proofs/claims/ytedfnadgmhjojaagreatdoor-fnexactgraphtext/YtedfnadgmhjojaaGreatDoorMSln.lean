/-
  CONTRACTS of the specification's l02Lines, kind by kind.
-/
import Derived.Test.YtedfnadgmhjojaaGreatDoorMSexc
import Derived.Test.YtedfnadgmhjojaaGreatDoorMRts
import Derived.Test.YtedfnadgmhjojaaGreatDoorMGroveb
namespace Go.Proofs.YtedfnadgmhjojaaGreatDoor
open Go.RowKit
open Pl

/-- What has lines. -/
def GoodL (t : T) : Prop := GoodS t ∨ GoodB t ∨ GoodD t ∨ (formedT t = true ∧ kindT t = 40)
theorem GoodL.formed {t : T} (h : GoodL t) : formedT t = true := by
 rcases h with h | h | h | h <;> exact h.1
theorem name_len8 {k m : Int} {s : ByteArray} {kk : List T} (h : GoodL (.node k s m kk)) : s.size ≤ 8 := head_size (formed_parts h.formed).1
def SLn (t : T) : Prop := match t with
 | .node k s m kk => ∀ (pad : ByteArray) (a : Option Addr) (c : Nat) (w : World), GoodL t → cnt t ≤ 500 → pad.size + 2 * dep t ≤ 1000 → Kids w 0 a kk →
   Calls Tryz.prog 30 #[.agg #[.int .i64 k, .string s, .int .i64 m, .slice a kk.length c], .string pad] w fun e w' => e = .returned (.string (lnS t pad)) ∧ Below w.heap.size w w'
theorem dep_mem {kk : List T} {t : T} (h : t ∈ kk) : dep t ≤ deps kk := by
 induction kk with
 | nil => cases h
 | cons x r ih =>
   simp only [deps]
   rcases List.mem_cons.1 h with rfl | h
   ·omega
   ·have := ih h; omega
theorem cat_size {pad : ByteArray} (kk : List T) (h : ∀ t ∈ kk, (lnS t pad).size ≤ 3000000 * cnt t) : (catS (lnSs kk pad)).size ≤ 3000000 * cnts kk := by
 induction kk with
 | nil => simp only [lnSs, catS, cnts]; decide
 | cons t r ih =>
   simp only [lnSs, catS, cnts, ByteArray.size_append]
   have := h t (by simp)
   have := ih fun x hx => h x (by simp [hx])
   omega
theorem bz (a : Array UInt8) : (ByteArray.mk a).size = a.size := rfl
theorem num_size {m : Int} (h1 : m ≤ 1000000) : (numS m).size ≤ 1000001 := by
 unfold numS
 split
 ·have := dec_size m.toNat; omega
 ·decide
theorem ln_size (t : T) : GoodL t → ∀ pad : ByteArray, pad.size + 2 * dep t ≤ 1000 → (lnS t pad).size ≤ 3000000 * cnt t := by
 refine T.induct (P := fun t => GoodL t → ∀ pad : ByteArray, pad.size + 2 * dep t ≤ 1000 → (lnS t pad).size ≤ 3000000 * cnt t) ?_ t
 intro k s m kk ih hg pad hp
 have hs := name_len8 hg
 have hd : ∀ x ∈ kk, pad.size + 2 + 2 * dep x ≤ 1000 := fun x hx => by have := dep_mem hx; simp only [dep] at hp; omega
 have more : ∀ x ∈ kk, GoodB x → (lnS x (pad ++ ⟨#[32, 32]⟩)).size ≤ 3000000 * cnt x := fun x hx hb => ih x hx (.inr (.inl hb)) _ (by rw [ByteArray.size_append]; exact hd x hx)
 have hpd : pad.size ≤ 1000 := by omega
 rcases hg with hg | hg | hg | hg
 ·rw [lnS_eq]
  cases stmt_shape hg with
  | set h x hk hx hn hm =>
    subst h hk hm
    have := exS_size _ hx.good
    rw [exSs1]
    show (pad ++ s ++ ⟨#[32, 61, 32]⟩ ++ exS x ++ ⟨#[59, 10]⟩).size ≤ _
    simp only [ByteArray.size_append, bz, List.size_toArray, List.length_cons, List.length_nil, cnt, cnts]
    omega
  | put h x y hk hx hy hn hm =>
    subst h hk hm
    have := exS_size _ hx.good
    have := exS_size _ hy.good
    rw [exSs2]
    show (pad ++ s ++ ⟨#[91]⟩ ++ exS x ++ ⟨#[93, 32, 61, 32]⟩ ++ exS y ++ ⟨#[59, 10]⟩).size ≤ _
    simp only [ByteArray.size_append, bz, List.size_toArray, List.length_cons, List.length_nil, cnt, cnts]
    omega
  | read h hk hn hm =>
    subst h hk hm
    show (pad ++ ⟨#[114, 101, 97, 100, 32]⟩ ++ s ++ ⟨#[59, 10]⟩).size ≤ _
    simp only [ByteArray.size_append, bz, List.size_toArray, List.length_cons, List.length_nil, cnt, cnts]
    omega
  | chec h c hk hc hs2 hm =>
    subst h hk hm
    have := exS_size _ hc.good
    rw [exSs1]
    show (pad ++ ⟨#[99, 104, 101, 99, 107, 32]⟩ ++ exS c ++ ⟨#[59, 10]⟩).size ≤ _
    simp only [ByteArray.size_append, bz, List.size_toArray, List.length_cons, List.length_nil, cnt, cnts]
    omega
  | skip h hk hs2 hm =>
    subst h hk hm
    show (pad ++ ⟨#[115, 107, 105, 112, 59, 10]⟩).size ≤ _
    simp only [ByteArray.size_append, bz, List.size_toArray, List.length_cons, List.length_nil, cnt, cnts]
    omega
  | stop h hk hs2 hm =>
    subst h hk hm
    show (pad ++ ⟨#[115, 116, 111, 112, 59, 10]⟩).size ≤ _
    simp only [ByteArray.size_append, bz, List.size_toArray, List.length_cons, List.length_nil, cnt, cnts]
    omega
  | whil h c b hk hc hb hs2 hm =>
    subst h hk hm
    have := exS_size _ hc.good
    have := more b (by simp) hb
    rw [exSs2, lnSs2]
    show (pad ++ ⟨#[119, 104, 105, 108, 101, 32]⟩ ++ exS c ++ ⟨#[32, 123, 10]⟩ ++ lnS b (pad ++ ⟨#[32, 32]⟩) ++ pad ++ ⟨#[125, 10]⟩).size ≤ _
    simp only [ByteArray.size_append, bz, List.size_toArray, List.length_cons, List.length_nil, cnt, cnts]
    omega
  | fors h x y b hk hx hy hb hn hm =>
    subst h hk hm
    have := exS_size _ hx.good
    have := exS_size _ hy.good
    have := more b (by simp) hb
    rw [exSs3, lnSs3]
    show (pad ++ ⟨#[102, 111, 114, 32]⟩ ++ s ++ ⟨#[32, 102, 114, 111, 109, 32]⟩ ++ exS x ++ ⟨#[32, 116, 111, 32]⟩ ++ exS y ++ ⟨#[32, 123, 10]⟩ ++ lnS b (pad ++ ⟨#[32, 32]⟩) ++ pad ++ ⟨#[125, 10]⟩).size ≤ _
    simp only [ByteArray.size_append, bz, List.size_toArray, List.length_cons, List.length_nil, cnt, cnts]
    omega
  | ifs h c b d hk hc hb hd2 hs2 hm =>
    subst h hk hm
    have := exS_size _ hc.good
    have := more b (by simp) hb
    have := more d (by simp) hd2
    rw [exSs3, lnSs3, show ((([c, b, d] : List T)[2]?).map kidsEmpty).getD true = kidsEmpty d from rfl]
    cases kidsEmpty d with
    | true =>
      show (pad ++ ⟨#[105, 102, 32]⟩ ++ exS c ++ ⟨#[32, 123, 10]⟩ ++ lnS b (pad ++ ⟨#[32, 32]⟩) ++ pad ++ ⟨#[125, 10]⟩).size ≤ _
      simp only [ByteArray.size_append, bz, List.size_toArray, List.length_cons, List.length_nil, cnt, cnts]
      omega
    | false =>
      show (pad ++ ⟨#[105, 102, 32]⟩ ++ exS c ++ ⟨#[32, 123, 10]⟩ ++ lnS b (pad ++ ⟨#[32, 32]⟩) ++ pad ++ ⟨#[125, 32, 101, 108, 115, 101, 32, 123, 10]⟩ ++ lnS d (pad ++ ⟨#[32, 32]⟩) ++ pad ++ ⟨#[125, 10]⟩).size ≤ _
      simp only [ByteArray.size_append, bz, List.size_toArray, List.length_cons, List.length_nil, cnt, cnts]
      omega
 ·obtain ⟨h1, h2⟩ := hg
  have h2' : k = 30 := h2
  subst h2'
  obtain ⟨_, _, r3⟩ := block_shape h1
  rw [lnS_eq]
  have := cat_size kk (pad := pad) (fun t ht => ih t ht (.inl (r3 t ht)) pad (by have := hd t ht; omega))
  show (catS (lnSs kk pad)).size ≤ _
  simp only [cnt]
  omega
 ·rw [lnS_eq]
  cases decl_shape hg with
  | var h hk hn hm =>
    subst h hk hm
    show (pad ++ ⟨#[118, 97, 114, 32]⟩ ++ s ++ ⟨#[59, 10]⟩).size ≤ _
    simp only [ByteArray.size_append, bz, List.size_toArray, List.length_cons, List.length_nil, cnt, cnts]
    omega
  | arr h hk hn h0 h1 =>
    subst h hk
    have := num_size h1
    show (pad ++ ⟨#[97, 114, 114, 97, 121, 32]⟩ ++ s ++ ⟨#[91]⟩ ++ numS m ++ ⟨#[93, 59, 10]⟩).size ≤ _
    simp only [ByteArray.size_append, bz, List.size_toArray, List.length_cons, List.length_nil, cnt, cnts]
    omega
 ·obtain ⟨h1, h2⟩ := hg
  have h2' : k = 40 := h2
  subst h2'
  obtain ⟨_, _, ds, ss, r3, g1, g2⟩ := prog_shape h1
  rw [lnS_eq]
  have := cat_size kk (pad := pad) (fun t ht => by
   refine ih t ht ?_ pad (by have := hd t ht; omega)
   rw [r3] at ht
   rcases List.mem_append.1 ht with q | q
   ·exact .inr (.inr (.inl (g1 t q)))
   ·rw [List.mem_singleton] at q
    subst q
    obtain ⟨_, a2⟩ := kid_of h1 (j := ds.length) (t := .node 30 nil_ 0 ss) (by rw [r3]; simp)
    exact .inr (.inl ⟨a2, rfl⟩))
  show (catS (lnSs kk pad)).size ≤ _
  simp only [cnt]
  omega
set_option maxRecDepth 100000 in
set_option maxHeartbeats 8000000 in
theorem sLn_read (s : ByteArray) : SLn (.node 23 s 0 []) := by
 intro pad a c w hg hc hp hk
 have hs : s.size ≤ 8 := name_len8 hg
 have hpd : pad.size ≤ 1000 := by omega
 rw [show lnS (.node 23 s 0 []) pad = pad ++ ⟨#[114, 101, 97, 100, 32]⟩ ++ s ++ ⟨#[59, 10]⟩ from by rw [lnS_eq]; rfl]
 clear hg hc hp hk
 have kk0 : ¬ 9223372036854775807 < pad.size + 2 := by omega
 have z1 : (pad ++ (ByteArray.mk #[114, 101, 97, 100, 32])).size = pad.size + 5 := by rw [ByteArray.size_append]; rfl
 have k1 : ¬ 9223372036854775807 < pad.size + 5 := by omega
 have z2 : (pad ++ (ByteArray.mk #[114, 101, 97, 100, 32]) ++ s).size = pad.size + 5 + s.size := by rw [ByteArray.size_append, z1]
 have k2 : ¬ 9223372036854775807 < pad.size + 5 + s.size := by omega
 have k3 : ¬ 9223372036854775807 < pad.size + 5 + s.size + 2 := by omega
 have B0 := mkHid ((Below.refl w.heap.size w).alloc (Nat.le_refl _) (.cells #[.int .i64 23, .string s, .int .i64 0, .slice a 0 c] 38))
 have F0 := mkHid (Four.new w 23 s 0 a 0 c 38)
 obtain ⟨p0, p1, p2, p3⟩ := F0.out
 show Calls Tryz.prog 30 #[.agg #[.int .i64 23, .string s, .int .i64 0, .slice a 0 c], .string pad] w _
 go_enter Tryz.func30, Tryz.ntmps30
 go_wp2
 go_ret
 exact ⟨ret_str rfl, B0.out⟩
set_option maxRecDepth 100000 in
set_option maxHeartbeats 8000000 in
theorem sLn_skip (s : ByteArray) : SLn (.node 28 s 0 []) := by
 intro pad a c w hg hc hp hk
 have hs : s.size ≤ 8 := name_len8 hg
 have hpd : pad.size ≤ 1000 := by omega
 rw [show lnS (.node 28 s 0 []) pad = pad ++ ⟨#[115, 107, 105, 112, 59, 10]⟩ from by rw [lnS_eq]; rfl]
 clear hg hc hp hk
 have kk0 : ¬ 9223372036854775807 < pad.size + 2 := by omega
 have k1 : ¬ 9223372036854775807 < pad.size + 6 := by omega
 have B0 := mkHid ((Below.refl w.heap.size w).alloc (Nat.le_refl _) (.cells #[.int .i64 28, .string s, .int .i64 0, .slice a 0 c] 38))
 have F0 := mkHid (Four.new w 28 s 0 a 0 c 38)
 obtain ⟨p0, p1, p2, p3⟩ := F0.out
 show Calls Tryz.prog 30 #[.agg #[.int .i64 28, .string s, .int .i64 0, .slice a 0 c], .string pad] w _
 go_enter Tryz.func30, Tryz.ntmps30
 go_wp2
 go_ret
 exact ⟨ret_str rfl, B0.out⟩
set_option maxRecDepth 100000 in
set_option maxHeartbeats 8000000 in
theorem sLn_stop (s : ByteArray) : SLn (.node 29 s 0 []) := by
 intro pad a c w hg hc hp hk
 have hs : s.size ≤ 8 := name_len8 hg
 have hpd : pad.size ≤ 1000 := by omega
 rw [show lnS (.node 29 s 0 []) pad = pad ++ ⟨#[115, 116, 111, 112, 59, 10]⟩ from by rw [lnS_eq]; rfl]
 clear hg hc hp hk
 have kk0 : ¬ 9223372036854775807 < pad.size + 2 := by omega
 have k1 : ¬ 9223372036854775807 < pad.size + 6 := by omega
 have B0 := mkHid ((Below.refl w.heap.size w).alloc (Nat.le_refl _) (.cells #[.int .i64 29, .string s, .int .i64 0, .slice a 0 c] 38))
 have F0 := mkHid (Four.new w 29 s 0 a 0 c 38)
 obtain ⟨p0, p1, p2, p3⟩ := F0.out
 show Calls Tryz.prog 30 #[.agg #[.int .i64 29, .string s, .int .i64 0, .slice a 0 c], .string pad] w _
 go_enter Tryz.func30, Tryz.ntmps30
 go_wp2
 go_ret
 exact ⟨ret_str rfl, B0.out⟩
set_option maxRecDepth 100000 in
set_option maxHeartbeats 8000000 in
theorem sLn_var (s : ByteArray) : SLn (.node 31 s 0 []) := by
 intro pad a c w hg hc hp hk
 have hs : s.size ≤ 8 := name_len8 hg
 have hpd : pad.size ≤ 1000 := by omega
 rw [show lnS (.node 31 s 0 []) pad = pad ++ ⟨#[118, 97, 114, 32]⟩ ++ s ++ ⟨#[59, 10]⟩ from by rw [lnS_eq]; rfl]
 clear hg hc hp hk
 have kk0 : ¬ 9223372036854775807 < pad.size + 2 := by omega
 have z1 : (pad ++ (ByteArray.mk #[118, 97, 114, 32])).size = pad.size + 4 := by rw [ByteArray.size_append]; rfl
 have k1 : ¬ 9223372036854775807 < pad.size + 4 := by omega
 have z2 : (pad ++ (ByteArray.mk #[118, 97, 114, 32]) ++ s).size = pad.size + 4 + s.size := by rw [ByteArray.size_append, z1]
 have k2 : ¬ 9223372036854775807 < pad.size + 4 + s.size := by omega
 have k3 : ¬ 9223372036854775807 < pad.size + 4 + s.size + 2 := by omega
 have B0 := mkHid ((Below.refl w.heap.size w).alloc (Nat.le_refl _) (.cells #[.int .i64 31, .string s, .int .i64 0, .slice a 0 c] 38))
 have F0 := mkHid (Four.new w 31 s 0 a 0 c 38)
 obtain ⟨p0, p1, p2, p3⟩ := F0.out
 show Calls Tryz.prog 30 #[.agg #[.int .i64 31, .string s, .int .i64 0, .slice a 0 c], .string pad] w _
 go_enter Tryz.func30, Tryz.ntmps30
 go_wp2
 go_ret
 exact ⟨ret_str rfl, B0.out⟩
set_option maxRecDepth 100000 in
set_option maxHeartbeats 8000000 in
theorem sLn_chec (s : ByteArray) (x : T) (Ix : SEx x) (hx : GoodC x) : SLn (.node 27 s 0 [x]) := by
 intro pad a c w hg hc hp hk
 have hs : s.size ≤ 8 := name_len8 hg
 have hcx : cnt x ≤ 499 := by simp only [cnt, cnts] at hc; omega
 have hdx : pad.size + 2 + 2 * dep x ≤ 1000 := by simp only [dep, deps] at hp; omega
 have hpd : pad.size ≤ 1000 := by omega
 rw [show lnS (.node 27 s 0 [x]) pad = pad ++ ⟨#[99, 104, 101, 99, 107, 32]⟩ ++ exS x ++ ⟨#[59, 10]⟩ from by rw [lnS_eq]; rw [exSs1]; rfl]
 rcases hk with h0 | ⟨b, o, rfl, _, hll⟩
 ·cases h0
 have hAx := exS_size _ hx.good
 obtain ⟨xk, xs, xm, xkk⟩ := x
 obtain ⟨xa, xc, xc0, xc1, xc2, xc3, _, _, xkids⟩ := hll.at (i := 0) (show _ = some (T.node xk xs xm xkk) from rfl)
 simp only [Nat.zero_mul, Nat.add_zero] at xc0 xc1 xc2 xc3
 have Hx := mkHid (fun W (hW : Below w.heap.size w W) => Ix xa xc W hx.good (by omega) (xkids.below hW))
 have hAx' : (exS (.node xk xs xm xkk)).size ≤ 2000000000 := by omega
 generalize exS (.node xk xs xm xkk) = Ax at Hx hAx' ⊢
 clear hll xkids Ix
 clear hx hAx hcx hdx
 clear hg hc hp
 have kk0 : ¬ 9223372036854775807 < pad.size + 2 := by omega
 have z1 : (pad ++ (ByteArray.mk #[99, 104, 101, 99, 107, 32])).size = pad.size + 6 := by rw [ByteArray.size_append]; rfl
 have k1 : ¬ 9223372036854775807 < pad.size + 6 := by omega
 have z2 : (pad ++ (ByteArray.mk #[99, 104, 101, 99, 107, 32]) ++ Ax).size = pad.size + 6 + Ax.size := by rw [ByteArray.size_append, z1]
 have k2 : ¬ 9223372036854775807 < pad.size + 6 + Ax.size := by omega
 have k3 : ¬ 9223372036854775807 < pad.size + 6 + Ax.size + 2 := by omega
 have B0 := mkHid ((Below.refl w.heap.size w).alloc (Nat.le_refl _) (.cells #[.int .i64 27, .string s, .int .i64 0, .slice (some ⟨b, o, none⟩) 1 c] 38))
 have F0 := mkHid (Four.new w 27 s 0 (some ⟨b, o, none⟩) 1 c 38)
 have hbw := World.block_lt_of_cell? w _ xc0
 have A0 := B0.out
 have nd : ∀ q, (w.alloc (.cells #[.int .i64 27, .string s, .int .i64 0, .slice (some ⟨b, o, none⟩) 1 c] 38)).cell? ⟨b, q, none⟩ = w.cell? ⟨b, q, none⟩ := fun q => A0.cell (p := ⟨b, q, none⟩) hbw
 obtain ⟨p0, p1, p2, p3⟩ := F0.out
 have xq0 := (nd _).trans xc0
 have xq1 := (nd _).trans xc1
 have xq2 := (nd _).trans xc2
 have xq3 := (nd _).trans xc3
 clear nd A0 hbw xc0 xc1 xc2 xc3
 show Calls Tryz.prog 30 #[.agg #[.int .i64 27, .string s, .int .i64 0, .slice (some ⟨b, o, none⟩) 1 c], .string pad] w _
 go_enter Tryz.func30, Tryz.ntmps30
 go_wp2_with fail
 generalize w.alloc (.cells #[.int .i64 27, .string s, .int .i64 0, .slice (some ⟨b, o, none⟩) 1 c] 38) = w1 at *
 have l1 : w.heap.size < w1.heap.size := World.block_lt_of_cell? w1 _ p0
 have l2 : b < w1.heap.size := World.block_lt_of_cell? w1 _ xq0
 refine (Hx.out _ B0.out).mono ?_
 rintro e w2 ⟨rfl, hb2⟩
 have B2 := mkHid (below_step B0.out hb2)
 clear hb2
 go_wp2
 go_ret
 exact ⟨ret_str rfl, B2.out⟩
set_option maxRecDepth 100000 in
set_option maxHeartbeats 8000000 in
theorem sLn_set (s : ByteArray) (x : T) (Ix : SEx x) (hx : Good1 x) : SLn (.node 21 s 0 [x]) := by
 intro pad a c w hg hc hp hk
 have hs : s.size ≤ 8 := name_len8 hg
 have hcx : cnt x ≤ 499 := by simp only [cnt, cnts] at hc; omega
 have hdx : pad.size + 2 + 2 * dep x ≤ 1000 := by simp only [dep, deps] at hp; omega
 have hpd : pad.size ≤ 1000 := by omega
 rw [show lnS (.node 21 s 0 [x]) pad = pad ++ s ++ ⟨#[32, 61, 32]⟩ ++ exS x ++ ⟨#[59, 10]⟩ from by rw [lnS_eq]; rw [exSs1]; rfl]
 rcases hk with h0 | ⟨b, o, rfl, _, hll⟩
 ·cases h0
 have hAx := exS_size _ hx.good
 obtain ⟨xk, xs, xm, xkk⟩ := x
 obtain ⟨xa, xc, xc0, xc1, xc2, xc3, _, _, xkids⟩ := hll.at (i := 0) (show _ = some (T.node xk xs xm xkk) from rfl)
 simp only [Nat.zero_mul, Nat.add_zero] at xc0 xc1 xc2 xc3
 have Hx := mkHid (fun W (hW : Below w.heap.size w W) => Ix xa xc W hx.good (by omega) (xkids.below hW))
 have hAx' : (exS (.node xk xs xm xkk)).size ≤ 2000000000 := by omega
 generalize exS (.node xk xs xm xkk) = Ax at Hx hAx' ⊢
 clear hll xkids Ix
 clear hx hAx hcx hdx
 clear hg hc hp
 have kk0 : ¬ 9223372036854775807 < pad.size + 2 := by omega
 have z1 : (pad ++ s).size = pad.size + s.size := by rw [ByteArray.size_append]
 have k1 : ¬ 9223372036854775807 < pad.size + s.size := by omega
 have z2 : (pad ++ s ++ (ByteArray.mk #[32, 61, 32])).size = pad.size + s.size + 3 := by rw [ByteArray.size_append, z1]; rfl
 have k2 : ¬ 9223372036854775807 < pad.size + s.size + 3 := by omega
 have z3 : (pad ++ s ++ (ByteArray.mk #[32, 61, 32]) ++ Ax).size = pad.size + s.size + 3 + Ax.size := by rw [ByteArray.size_append, z2]
 have k3 : ¬ 9223372036854775807 < pad.size + s.size + 3 + Ax.size := by omega
 have k4 : ¬ 9223372036854775807 < pad.size + s.size + 3 + Ax.size + 2 := by omega
 have B0 := mkHid ((Below.refl w.heap.size w).alloc (Nat.le_refl _) (.cells #[.int .i64 21, .string s, .int .i64 0, .slice (some ⟨b, o, none⟩) 1 c] 38))
 have F0 := mkHid (Four.new w 21 s 0 (some ⟨b, o, none⟩) 1 c 38)
 have hbw := World.block_lt_of_cell? w _ xc0
 have A0 := B0.out
 have nd : ∀ q, (w.alloc (.cells #[.int .i64 21, .string s, .int .i64 0, .slice (some ⟨b, o, none⟩) 1 c] 38)).cell? ⟨b, q, none⟩ = w.cell? ⟨b, q, none⟩ := fun q => A0.cell (p := ⟨b, q, none⟩) hbw
 obtain ⟨p0, p1, p2, p3⟩ := F0.out
 have xq0 := (nd _).trans xc0
 have xq1 := (nd _).trans xc1
 have xq2 := (nd _).trans xc2
 have xq3 := (nd _).trans xc3
 clear nd A0 hbw xc0 xc1 xc2 xc3
 show Calls Tryz.prog 30 #[.agg #[.int .i64 21, .string s, .int .i64 0, .slice (some ⟨b, o, none⟩) 1 c], .string pad] w _
 go_enter Tryz.func30, Tryz.ntmps30
 go_wp2_with fail
 generalize w.alloc (.cells #[.int .i64 21, .string s, .int .i64 0, .slice (some ⟨b, o, none⟩) 1 c] 38) = w1 at *
 have l1 : w.heap.size < w1.heap.size := World.block_lt_of_cell? w1 _ p0
 have l2 : b < w1.heap.size := World.block_lt_of_cell? w1 _ xq0
 go_region_held3 (fun w' => w'.cell? ⟨w.heap.size, 0, none⟩ = some (.int .i64 21) ∧ w'.cell? ⟨w.heap.size, 1, none⟩ = some (.string s) ∧ w'.cell? ⟨w.heap.size, 2, none⟩ = some (.int .i64 0) ∧ w'.cell? ⟨w.heap.size, 3, none⟩ = some (.slice (some ⟨b, o, none⟩) 1 c) ∧ w'.cell? ⟨b, o, none⟩ = some (.int .i64 xk) ∧ w'.cell? ⟨b, o + 1, none⟩ = some (.string xs) ∧ w'.cell? ⟨b, o + 2, none⟩ = some (.int .i64 xm) ∧ w'.cell? ⟨b, o + 3, none⟩ = some (.slice xa xkk.length xc)) (first | exact ⟨p0, p1, p2, p3, xq0, xq1, xq2, xq3⟩ | exact ⟨(hc _ _ l1).trans p0, (hc _ _ l1).trans p1, (hc _ _ l1).trans p2, (hc _ _ l1).trans p3, (hc _ _ l2).trans xq0, (hc _ _ l2).trans xq1, (hc _ _ l2).trans xq2, (hc _ _ l2).trans xq3⟩) (first | (go_at_call 43; refine (Hx.out _ (B0.out.drew)).mono ?_; rintro e w2 ⟨rfl, hb2⟩; obtain ⟨hc, hf⟩ := bcell hb2))
 have B2 := mkHid (below_step (B0.out.drew) hb2)
 clear hb2 hc hf
 go_wp2
 go_ret
 exact ⟨ret_str rfl, B2.out⟩
set_option maxRecDepth 100000 in
set_option maxHeartbeats 8000000 in
theorem sLn_put (s : ByteArray) (x : T) (y : T) (Ix : SEx x) (Iy : SEx y) (hx : Good1 x) (hy : Good1 y) : SLn (.node 22 s 0 [x, y]) := by
 intro pad a c w hg hc hp hk
 have hs : s.size ≤ 8 := name_len8 hg
 have hcx : cnt x + cnt y ≤ 499 := by simp only [cnt, cnts] at hc; omega
 have hdx : pad.size + 2 + 2 * dep x ≤ 1000 ∧ pad.size + 2 + 2 * dep y ≤ 1000 := by simp only [dep, deps] at hp; omega
 have hpd : pad.size ≤ 1000 := by omega
 rw [show lnS (.node 22 s 0 [x, y]) pad = pad ++ s ++ ⟨#[91]⟩ ++ exS x ++ ⟨#[93, 32, 61, 32]⟩ ++ exS y ++ ⟨#[59, 10]⟩ from by rw [lnS_eq]; rw [exSs2]; rfl]
 rcases hk with h0 | ⟨b, o, rfl, _, hll⟩
 ·cases h0
 have hAx := exS_size _ hx.good
 have hAy := exS_size _ hy.good
 obtain ⟨xk, xs, xm, xkk⟩ := x
 obtain ⟨xa, xc, xc0, xc1, xc2, xc3, _, _, xkids⟩ := hll.at (i := 0) (show _ = some (T.node xk xs xm xkk) from rfl)
 simp only [Nat.zero_mul, Nat.add_zero] at xc0 xc1 xc2 xc3
 have Hx := mkHid (fun W (hW : Below w.heap.size w W) => Ix xa xc W hx.good (by omega) (xkids.below hW))
 have hAx' : (exS (.node xk xs xm xkk)).size ≤ 2000000000 := by omega
 generalize exS (.node xk xs xm xkk) = Ax at Hx hAx' ⊢
 obtain ⟨yk, ys, ym, ykk⟩ := y
 obtain ⟨ya, yc, yc0, yc1, yc2, yc3, _, _, ykids⟩ := hll.at (i := 1) (show _ = some (T.node yk ys ym ykk) from rfl)
 simp only [Nat.one_mul] at yc0 yc1 yc2 yc3
 have Hy := mkHid (fun W (hW : Below w.heap.size w W) => Iy ya yc W hy.good (by omega) (ykids.below hW))
 have hAy' : (exS (.node yk ys ym ykk)).size ≤ 2000000000 := by omega
 generalize exS (.node yk ys ym ykk) = Ay at Hy hAy' ⊢
 clear hll xkids Ix ykids Iy
 clear hx hAx hy hAy hcx hdx
 clear hg hc hp
 have kk0 : ¬ 9223372036854775807 < pad.size + 2 := by omega
 have z1 : (pad ++ s).size = pad.size + s.size := by rw [ByteArray.size_append]
 have k1 : ¬ 9223372036854775807 < pad.size + s.size := by omega
 have z2 : (pad ++ s ++ (ByteArray.mk #[91])).size = pad.size + s.size + 1 := by rw [ByteArray.size_append, z1]; rfl
 have k2 : ¬ 9223372036854775807 < pad.size + s.size + 1 := by omega
 have z3 : (pad ++ s ++ (ByteArray.mk #[91]) ++ Ax).size = pad.size + s.size + 1 + Ax.size := by rw [ByteArray.size_append, z2]
 have k3 : ¬ 9223372036854775807 < pad.size + s.size + 1 + Ax.size := by omega
 have z4 : (pad ++ s ++ (ByteArray.mk #[91]) ++ Ax ++ (ByteArray.mk #[93, 32, 61, 32])).size = pad.size + s.size + 1 + Ax.size + 4 := by rw [ByteArray.size_append, z3]; rfl
 have k4 : ¬ 9223372036854775807 < pad.size + s.size + 1 + Ax.size + 4 := by omega
 have z5 : (pad ++ s ++ (ByteArray.mk #[91]) ++ Ax ++ (ByteArray.mk #[93, 32, 61, 32]) ++ Ay).size = pad.size + s.size + 1 + Ax.size + 4 + Ay.size := by rw [ByteArray.size_append, z4]
 have k5 : ¬ 9223372036854775807 < pad.size + s.size + 1 + Ax.size + 4 + Ay.size := by omega
 have k6 : ¬ 9223372036854775807 < pad.size + s.size + 1 + Ax.size + 4 + Ay.size + 2 := by omega
 have B0 := mkHid ((Below.refl w.heap.size w).alloc (Nat.le_refl _) (.cells #[.int .i64 22, .string s, .int .i64 0, .slice (some ⟨b, o, none⟩) 2 c] 38))
 have F0 := mkHid (Four.new w 22 s 0 (some ⟨b, o, none⟩) 2 c 38)
 have hbw := World.block_lt_of_cell? w _ xc0
 have A0 := B0.out
 have nd : ∀ q, (w.alloc (.cells #[.int .i64 22, .string s, .int .i64 0, .slice (some ⟨b, o, none⟩) 2 c] 38)).cell? ⟨b, q, none⟩ = w.cell? ⟨b, q, none⟩ := fun q => A0.cell (p := ⟨b, q, none⟩) hbw
 obtain ⟨p0, p1, p2, p3⟩ := F0.out
 have xq0 := (nd _).trans xc0
 have xq1 := (nd _).trans xc1
 have xq2 := (nd _).trans xc2
 have xq3 := (nd _).trans xc3
 have yq0 := (nd _).trans yc0
 have yq1 := (nd _).trans yc1
 have yq2 := (nd _).trans yc2
 have yq3 := (nd _).trans yc3
 clear nd A0 hbw xc0 xc1 xc2 xc3 yc0 yc1 yc2 yc3
 show Calls Tryz.prog 30 #[.agg #[.int .i64 22, .string s, .int .i64 0, .slice (some ⟨b, o, none⟩) 2 c], .string pad] w _
 go_enter Tryz.func30, Tryz.ntmps30
 go_wp2_with fail
 generalize w.alloc (.cells #[.int .i64 22, .string s, .int .i64 0, .slice (some ⟨b, o, none⟩) 2 c] 38) = w1 at *
 have l1 : w.heap.size < w1.heap.size := World.block_lt_of_cell? w1 _ p0
 have l2 : b < w1.heap.size := World.block_lt_of_cell? w1 _ xq0
 go_region_held3 (fun w' => w'.cell? ⟨w.heap.size, 0, none⟩ = some (.int .i64 22) ∧ w'.cell? ⟨w.heap.size, 1, none⟩ = some (.string s) ∧ w'.cell? ⟨w.heap.size, 2, none⟩ = some (.int .i64 0) ∧ w'.cell? ⟨w.heap.size, 3, none⟩ = some (.slice (some ⟨b, o, none⟩) 2 c) ∧ w'.cell? ⟨b, o, none⟩ = some (.int .i64 xk) ∧ w'.cell? ⟨b, o + 1, none⟩ = some (.string xs) ∧ w'.cell? ⟨b, o + 2, none⟩ = some (.int .i64 xm) ∧ w'.cell? ⟨b, o + 3, none⟩ = some (.slice xa xkk.length xc) ∧ w'.cell? ⟨b, o + 4, none⟩ = some (.int .i64 yk) ∧ w'.cell? ⟨b, o + 4 + 1, none⟩ = some (.string ys) ∧ w'.cell? ⟨b, o + 4 + 2, none⟩ = some (.int .i64 ym) ∧ w'.cell? ⟨b, o + 4 + 3, none⟩ = some (.slice ya ykk.length yc)) (first | exact ⟨p0, p1, p2, p3, xq0, xq1, xq2, xq3, yq0, yq1, yq2, yq3⟩ | exact ⟨(hc _ _ l1).trans p0, (hc _ _ l1).trans p1, (hc _ _ l1).trans p2, (hc _ _ l1).trans p3, (hc _ _ l2).trans xq0, (hc _ _ l2).trans xq1, (hc _ _ l2).trans xq2, (hc _ _ l2).trans xq3, (hc _ _ l2).trans yq0, (hc _ _ l2).trans yq1, (hc _ _ l2).trans yq2, (hc _ _ l2).trans yq3⟩) (first | (go_at_call_of 43 (Value.agg #[.int .i64 xk, .string xs, .int .i64 xm, .slice xa xkk.length xc]); refine (Hx.out _ (B0.out.drew)).mono ?_; rintro e w2 ⟨rfl, hb2⟩; obtain ⟨hc, hf⟩ := bcell hb2) | (go_at_call_of 43 (Value.agg #[.int .i64 yk, .string ys, .int .i64 ym, .slice ya ykk.length yc]); refine (Hy.out _ (below_step (B0.out.drew) hb2)).mono ?_; rintro e w3 ⟨rfl, hb3⟩; obtain ⟨hc', hf'⟩ := bcell hb3; have hc := fun (b o : Nat) (h : b < w1.drew.heap.size) => (hc' b o (Nat.lt_of_lt_of_le (h) hb2.size)).trans (hc b o h)))
 have B2 := mkHid (below_step (below_step (B0.out.drew) hb2) hb3)
 clear hb2 hb3 hc hf hc' hf'
 go_wp2
 go_ret
 exact ⟨ret_str rfl, B2.out⟩
set_option maxRecDepth 100000 in
set_option maxHeartbeats 8000000 in
theorem sLn_while (s : ByteArray) (x : T) (y : T) (Ix : SEx x) (Iy : SLn y) (hx : GoodC x) (hy : GoodB y) : SLn (.node 25 s 0 [x, y]) := by
 intro pad a c w hg hc hp hk
 have hs : s.size ≤ 8 := name_len8 hg
 have hcx : cnt x + cnt y ≤ 499 := by simp only [cnt, cnts] at hc; omega
 have hdx : pad.size + 2 + 2 * dep x ≤ 1000 ∧ pad.size + 2 + 2 * dep y ≤ 1000 := by simp only [dep, deps] at hp; omega
 have hpd : pad.size ≤ 1000 := by omega
 rw [show lnS (.node 25 s 0 [x, y]) pad = pad ++ ⟨#[119, 104, 105, 108, 101, 32]⟩ ++ exS x ++ ⟨#[32, 123, 10]⟩ ++ lnS y (pad ++ ⟨#[32, 32]⟩) ++ pad ++ ⟨#[125, 10]⟩ from by rw [lnS_eq]; rw [exSs2, lnSs2]; rfl]
 rcases hk with h0 | ⟨b, o, rfl, _, hll⟩
 ·cases h0
 have hAx := exS_size _ hx.good
 have hAy := ln_size y (.inr (.inl hy)) (pad ++ ⟨#[32, 32]⟩) (by rw [ByteArray.size_append]; show pad.size + 2 + _ ≤ 1000; omega)
 obtain ⟨xk, xs, xm, xkk⟩ := x
 obtain ⟨xa, xc, xc0, xc1, xc2, xc3, _, _, xkids⟩ := hll.at (i := 0) (show _ = some (T.node xk xs xm xkk) from rfl)
 simp only [Nat.zero_mul, Nat.add_zero] at xc0 xc1 xc2 xc3
 have Hx := mkHid (fun W (hW : Below w.heap.size w W) => Ix xa xc W hx.good (by omega) (xkids.below hW))
 have hAx' : (exS (.node xk xs xm xkk)).size ≤ 2000000000 := by omega
 generalize exS (.node xk xs xm xkk) = Ax at Hx hAx' ⊢
 obtain ⟨yk, ys, ym, ykk⟩ := y
 obtain ⟨ya, yc, yc0, yc1, yc2, yc3, _, _, ykids⟩ := hll.at (i := 1) (show _ = some (T.node yk ys ym ykk) from rfl)
 simp only [Nat.one_mul] at yc0 yc1 yc2 yc3
 have Hy := mkHid (fun W (hW : Below w.heap.size w W) => Iy (pad ++ ⟨#[32, 32]⟩) ya yc W (.inr (.inl hy)) (by omega) (by rw [ByteArray.size_append]; show pad.size + 2 + _ ≤ 1000; omega) (ykids.below hW))
 have hAy' : (lnS (.node yk ys ym ykk) (pad ++ ⟨#[32, 32]⟩)).size ≤ 2000000000 := by omega
 generalize lnS (.node yk ys ym ykk) (pad ++ ⟨#[32, 32]⟩) = Ay at Hy hAy' ⊢
 clear hll xkids Ix ykids Iy
 clear hx hAx hy hAy hcx hdx
 clear hg hc hp
 have kk0 : ¬ 9223372036854775807 < pad.size + 2 := by omega
 have z1 : (pad ++ (ByteArray.mk #[119, 104, 105, 108, 101, 32])).size = pad.size + 6 := by rw [ByteArray.size_append]; rfl
 have k1 : ¬ 9223372036854775807 < pad.size + 6 := by omega
 have z2 : (pad ++ (ByteArray.mk #[119, 104, 105, 108, 101, 32]) ++ Ax).size = pad.size + 6 + Ax.size := by rw [ByteArray.size_append, z1]
 have k2 : ¬ 9223372036854775807 < pad.size + 6 + Ax.size := by omega
 have z3 : (pad ++ (ByteArray.mk #[119, 104, 105, 108, 101, 32]) ++ Ax ++ (ByteArray.mk #[32, 123, 10])).size = pad.size + 6 + Ax.size + 3 := by rw [ByteArray.size_append, z2]; rfl
 have k3 : ¬ 9223372036854775807 < pad.size + 6 + Ax.size + 3 := by omega
 have z4 : (pad ++ (ByteArray.mk #[119, 104, 105, 108, 101, 32]) ++ Ax ++ (ByteArray.mk #[32, 123, 10]) ++ Ay).size = pad.size + 6 + Ax.size + 3 + Ay.size := by rw [ByteArray.size_append, z3]
 have k4 : ¬ 9223372036854775807 < pad.size + 6 + Ax.size + 3 + Ay.size := by omega
 have z5 : (pad ++ (ByteArray.mk #[119, 104, 105, 108, 101, 32]) ++ Ax ++ (ByteArray.mk #[32, 123, 10]) ++ Ay ++ pad).size = pad.size + 6 + Ax.size + 3 + Ay.size + pad.size := by rw [ByteArray.size_append, z4]
 have k5 : ¬ 9223372036854775807 < pad.size + 6 + Ax.size + 3 + Ay.size + pad.size := by omega
 have k6 : ¬ 9223372036854775807 < pad.size + 6 + Ax.size + 3 + Ay.size + pad.size + 2 := by omega
 have B0 := mkHid ((Below.refl w.heap.size w).alloc (Nat.le_refl _) (.cells #[.int .i64 25, .string s, .int .i64 0, .slice (some ⟨b, o, none⟩) 2 c] 38))
 have F0 := mkHid (Four.new w 25 s 0 (some ⟨b, o, none⟩) 2 c 38)
 have hbw := World.block_lt_of_cell? w _ xc0
 have A0 := B0.out
 have nd : ∀ q, (w.alloc (.cells #[.int .i64 25, .string s, .int .i64 0, .slice (some ⟨b, o, none⟩) 2 c] 38)).cell? ⟨b, q, none⟩ = w.cell? ⟨b, q, none⟩ := fun q => A0.cell (p := ⟨b, q, none⟩) hbw
 obtain ⟨p0, p1, p2, p3⟩ := F0.out
 have xq0 := (nd _).trans xc0
 have xq1 := (nd _).trans xc1
 have xq2 := (nd _).trans xc2
 have xq3 := (nd _).trans xc3
 have yq0 := (nd _).trans yc0
 have yq1 := (nd _).trans yc1
 have yq2 := (nd _).trans yc2
 have yq3 := (nd _).trans yc3
 clear nd A0 hbw xc0 xc1 xc2 xc3 yc0 yc1 yc2 yc3
 show Calls Tryz.prog 30 #[.agg #[.int .i64 25, .string s, .int .i64 0, .slice (some ⟨b, o, none⟩) 2 c], .string pad] w _
 go_enter Tryz.func30, Tryz.ntmps30
 go_wp2_with fail
 generalize w.alloc (.cells #[.int .i64 25, .string s, .int .i64 0, .slice (some ⟨b, o, none⟩) 2 c] 38) = w1 at *
 have l1 : w.heap.size < w1.heap.size := World.block_lt_of_cell? w1 _ p0
 have l2 : b < w1.heap.size := World.block_lt_of_cell? w1 _ xq0
 go_region_held3 (fun w' => w'.cell? ⟨w.heap.size, 0, none⟩ = some (.int .i64 25) ∧ w'.cell? ⟨w.heap.size, 1, none⟩ = some (.string s) ∧ w'.cell? ⟨w.heap.size, 2, none⟩ = some (.int .i64 0) ∧ w'.cell? ⟨w.heap.size, 3, none⟩ = some (.slice (some ⟨b, o, none⟩) 2 c) ∧ w'.cell? ⟨b, o, none⟩ = some (.int .i64 xk) ∧ w'.cell? ⟨b, o + 1, none⟩ = some (.string xs) ∧ w'.cell? ⟨b, o + 2, none⟩ = some (.int .i64 xm) ∧ w'.cell? ⟨b, o + 3, none⟩ = some (.slice xa xkk.length xc) ∧ w'.cell? ⟨b, o + 4, none⟩ = some (.int .i64 yk) ∧ w'.cell? ⟨b, o + 4 + 1, none⟩ = some (.string ys) ∧ w'.cell? ⟨b, o + 4 + 2, none⟩ = some (.int .i64 ym) ∧ w'.cell? ⟨b, o + 4 + 3, none⟩ = some (.slice ya ykk.length yc)) (first | exact ⟨p0, p1, p2, p3, xq0, xq1, xq2, xq3, yq0, yq1, yq2, yq3⟩ | exact ⟨(hc _ _ l1).trans p0, (hc _ _ l1).trans p1, (hc _ _ l1).trans p2, (hc _ _ l1).trans p3, (hc _ _ l2).trans xq0, (hc _ _ l2).trans xq1, (hc _ _ l2).trans xq2, (hc _ _ l2).trans xq3, (hc _ _ l2).trans yq0, (hc _ _ l2).trans yq1, (hc _ _ l2).trans yq2, (hc _ _ l2).trans yq3⟩) (first | (go_at_call 43; refine (Hx.out _ (B0.out.drew)).mono ?_; rintro e w2 ⟨rfl, hb2⟩; obtain ⟨hc, hf⟩ := bcell hb2) | (go_at_call 30; refine (Hy.out _ (below_step (B0.out.drew) hb2)).mono ?_; rintro e w3 ⟨rfl, hb3⟩; obtain ⟨hc', hf'⟩ := bcell hb3; have hc := fun (b o : Nat) (h : b < w1.drew.heap.size) => (hc' b o (Nat.lt_of_lt_of_le (h) hb2.size)).trans (hc b o h)))
 have B2 := mkHid (below_step (below_step (B0.out.drew) hb2) hb3)
 clear hb2 hb3 hc hf hc' hf'
 go_wp2
 go_ret
 exact ⟨ret_str rfl, B2.out⟩
end Go.Proofs.YtedfnadgmhjojaaGreatDoor
