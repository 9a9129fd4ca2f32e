/-
  PLAIN FACTS of the law: no text of a small tree is too long; what an empty text tells; the tree in a program that was read.
-/
import Derived.Test.YtjmjmdmnejnlbaaGreatDoorMPbx
import Derived.Test.YtjmjmdmnejnlbaaGreatDoorMStxt
import Derived.Test.YtjmjmdmnejnlbaaGreatDoorMSm
namespace Go.Proofs.YtjmjmdmnejnlbaaGreatDoor
open Go.RowKit
open Pl
theorem dec_lt : ∀ (k n : Nat), n < 10 ^ (k + 1) → (dec n).size ≤ k + 1
 | 0, n, h => by rw [dec_small (by simpa using h)]; exact Nat.le_refl _
 | k + 1, n, h => by
   by_cases hs : n < 10
   ·rw [dec_small hs]; show 1 ≤ k + 1 + 1; omega
   ·rw [dec_more hs, ByteArray.size_append]
    have := dec_lt k (n / 10) (by rw [Nat.pow_succ] at h; omega)
    show (dec (n / 10)).size + 1 ≤ k + 1 + 1
    omega
theorem par_size2 (k : Int) (s : ByteArray) (l : Int) : (par k s l).size ≤ s.size + 2 := by
 unfold par
 split
 ·rw [ByteArray.size_append, ByteArray.size_append]; show 1 + s.size + 1 ≤ _; omega
 ·omega
theorem exS_ten (t : T) : Good t → (exS t).size ≤ 10 * cnt t + 3 := by
 refine T.induct (P := fun t => Good t → (exS t).size ≤ 10 * cnt t + 3) ?_ t
 intro k s m kk IH hg
 obtain ⟨hs, sh⟩ := good_shape hg
 cases sh with
 | num h hk h0 h1 =>
  subst h hk
  rw [exS0, show lay 1 s m 0 ⟨#[]⟩ 0 ⟨#[]⟩ = dec m.toNat by simp [lay]]
  have := dec_lt 6 m.toNat (by show m.toNat < 10000000; omega)
  simp only [cnt, cnts]
  omega
 | var h hk =>
  subst h hk
  rw [exS0, show lay 2 s m 0 ⟨#[]⟩ 0 ⟨#[]⟩ = s by simp [lay]]
  simp only [cnt, cnts]
  omega
 | len h hk =>
  subst h hk
  rw [exS0, show lay 4 s m 0 ⟨#[]⟩ 0 ⟨#[]⟩ = ⟨#[108, 101, 110, 40]⟩ ++ s ++ ⟨#[41]⟩ by simp [lay], ByteArray.size_append, ByteArray.size_append]
  simp only [cnt, cnts]
  show 4 + s.size + 1 ≤ _
  omega
 | cell h x hk hx =>
  subst h hk
  have := IH x (by simp) hx.good
  rw [exS1, show lay 3 s m (kindT x) (exS x) 0 ⟨#[]⟩ = s ++ ⟨#[91]⟩ ++ exS x ++ ⟨#[93]⟩ by simp [lay], ByteArray.size_append, ByteArray.size_append, ByteArray.size_append]
  simp only [cnt, cnts]
  show s.size + 1 + (exS x).size + 1 ≤ _
  omega
 | neg h x hk hx =>
  subst h hk
  have := IH x (by simp) hx.good
  have hp := par_size2 (kindT x) (exS x) 3
  rw [exS1, show lay 5 s m (kindT x) (exS x) 0 ⟨#[]⟩ = ⟨#[45]⟩ ++ par (kindT x) (exS x) 3 by simp [lay], ByteArray.size_append]
  simp only [cnt, cnts]
  show 1 + (par (kindT x) (exS x) 3).size ≤ _
  omega
 | pair h x y hk hx hy =>
  subst hk
  have h1 := IH x (by simp) hx.good
  have h2 := IH y (by simp) hy.good
  have go : ∀ (la lb : Int) (c : UInt8), (par (kindT x) (exS x) la ++ ⟨#[32, c, 32]⟩ ++ par (kindT y) (exS y) lb).size ≤ 10 * cnt (.node k s m [x, y]) + 3 := fun la lb c => by
   have p1 := par_size2 (kindT x) (exS x) la
   have p2 := par_size2 (kindT y) (exS y) lb
   rw [ByteArray.size_append, ByteArray.size_append]
   simp only [cnt, cnts]
   show (par (kindT x) (exS x) la).size + 3 + (par (kindT y) (exS y) lb).size ≤ _
   omega
  rw [exS2]
  rcases h with rfl | rfl | rfl
  ·exact go 1 2 43
  ·exact go 1 2 45
  ·exact go 2 3 42
 | cond h x y hk hx hy =>
  subst hk
  have h1 := IH x (by simp) hx.good
  have h2 := IH y (by simp) hy.good
  have h3 := sign_size k
  have e32 : (ByteArray.mk #[32]).size = 1 := rfl
  rw [exS2]
  have l1 : lay k s m (kindT x) (exS x) (kindT y) (exS y) = exS x ++ ⟨#[32]⟩ ++ signI k ++ ⟨#[32]⟩ ++ exS y := by
   unfold lay
   rw [if_neg (by omega), if_neg (by omega), if_neg (by omega), if_neg (by omega), if_neg (by omega), if_neg (by omega), if_neg (by omega), if_neg (by omega)]
  rw [l1, ByteArray.size_append, ByteArray.size_append, ByteArray.size_append, ByteArray.size_append, e32]
  simp only [cnt, cnts]
  omega
theorem text_cases (t : T) (hc : cnt t ≤ 345) : (textT t = ⟨#[]⟩ ∧ (betw (kindT t) 1 8 && fitsS t) = false ∧ (betw (kindT t) 11 16 && fitsS t) = false) ∨
 (textT t ≠ ⟨#[]⟩ ∧ textT t = exS t ∧ (exS t).size ≤ 4000 ∧ (((betw (kindT t) 11 16 && fitsS t) = true ∧ GoodC t) ∨ ((betw (kindT t) 11 16 && fitsS t) = false ∧ Good1 t))) := by
 by_cases hf : ((betw (kindT t) 1 8 || betw (kindT t) 11 16) && fitsS t) = true
 ·right
  obtain ⟨hg, _⟩ := good_of hf
  have hz := exS_ten t hg
  have hp := exS_pos t hg
  have e : textT t = exS t := by unfold textT; rw [if_pos hf, if_neg (by omega)]
  refine ⟨?_, e, by omega, ?_⟩
  ·rw [e]
   intro h
   rw [h] at hp
   exact absurd hp (by decide)
  ·simp only [Bool.and_eq_true, Bool.or_eq_true] at hf
   rcases hg.2 with h | h
   ·right
    refine ⟨?_, hg.1, h⟩
    rw [show betw (kindT t) 11 16 = false by unfold betw; exact decide_eq_false (by omega)]; rfl
   ·left
    refine ⟨?_, hg.1, h⟩
    rw [show betw (kindT t) 11 16 = true by unfold betw; exact decide_eq_true h, hf.2]; rfl
 ·left
  refine ⟨by unfold textT; rw [if_neg hf], ?_, ?_⟩
  ·cases h1 : betw (kindT t) 1 8 <;> cases h2 : fitsS t <;> simp_all
  ·cases h1 : betw (kindT t) 11 16 <;> cases h2 : fitsS t <;> simp_all
theorem bed_one {w : World} {k m : Int} {s : ByteArray} {a : Option Addr} {c : Nat} {yk ym : Int} {ys : ByteArray} {ya : Option Addr} {yc : Nat} {ykk : List A} (h : Sits w (.node k s m a c [.node yk ys ym ya yc ykk])) :
 ∃ b, a = some ⟨b, 0, none⟩ ∧ w.cell? ⟨b, 0, none⟩ = some (.int .i64 yk) ∧ w.cell? ⟨b, 1, none⟩ = some (.string ys) ∧ w.cell? ⟨b, 2, none⟩ = some (.int .i64 ym) ∧ w.cell? ⟨b, 3, none⟩ = some (.slice ya ykk.length yc) ∧ Sits w (.node yk ys ym ya yc ykk) := by
 simp only [Sits, SitsL] at h
 obtain ⟨_, _, hb, hs⟩ := h
 rcases hb with hb | ⟨b, cs, e, hh, hc⟩
 ·cases hb
 ·refine ⟨b, e, ?_, ?_, ?_, ?_, by simpa only [Sits, SitsL] using hs.1⟩
  ·rw [cell_of_row w b 0 cs _ _ hh]; exact hc 0 _ rfl
  ·rw [cell_of_row w b 1 cs _ _ hh]; exact hc 1 _ rfl
  ·rw [cell_of_row w b 2 cs _ _ hh]; exact hc 2 _ rfl
  ·rw [cell_of_row w b 3 cs _ _ hh]; exact hc 3 _ rfl
/-- The expression in a program of one statement. -/
theorem unwrap {w : World} {x : A} {k : Int} {s : ByteArray} {e : T} (hx : Sits w x) (he : x.erase = progN (.node k s 0 [e])) :
 ∃ (b1 b2 b3 : Nat) (c1 c2 c3 : Nat) (zk zm : Int) (zs : ByteArray) (za : Option Addr) (zc : Nat) (zkk : List A), x = .node 40 nil_ 0 (some ⟨b1, 0, none⟩) c1 [.node 30 nil_ 0 (some ⟨b2, 0, none⟩) c2 [.node k s 0 (some ⟨b3, 0, none⟩) c3 [.node zk zs zm za zc zkk]]] ∧
  w.cell? ⟨b1, 3, none⟩ = some (.slice (some ⟨b2, 0, none⟩) 1 c2) ∧ w.cell? ⟨b2, 3, none⟩ = some (.slice (some ⟨b3, 0, none⟩) 1 c3) ∧ w.cell? ⟨b3, 0, none⟩ = some (.int .i64 zk) ∧ w.cell? ⟨b3, 1, none⟩ = some (.string zs) ∧ w.cell? ⟨b3, 2, none⟩ = some (.int .i64 zm) ∧ w.cell? ⟨b3, 3, none⟩ = some (.slice za zkk.length zc) ∧
  Sits w (.node zk zs zm za zc zkk) ∧ (A.node zk zs zm za zc zkk).erase = e := by
 obtain ⟨xk, xs, xm, xa, xc, xkk⟩ := x
 simp only [A.erase, progN, T.node.injEq] at he
 obtain ⟨rfl, rfl, rfl, he⟩ := he
 match xkk, he, hx with
 | [.node yk ys ym ya yc ykk], he, hx =>
  simp only [erases, A.erase, List.cons.injEq, T.node.injEq, and_true] at he
  obtain ⟨rfl, rfl, rfl, he⟩ := he
  match ykk, he, hx with
  | [.node uk us um ua uc ukk], he, hx =>
   simp only [erases, A.erase, List.cons.injEq, T.node.injEq, and_true] at he
   obtain ⟨rfl, rfl, rfl, he⟩ := he
   match ukk, he, hx with
   | [.node zk zs zm za zc zkk], he, hx =>
    simp only [erases, List.cons.injEq, and_true] at he
    obtain ⟨b1, rfl, _, _, _, h1, hy⟩ := bed_one hx
    obtain ⟨b2, rfl, _, _, _, h2, hu⟩ := bed_one hy
    obtain ⟨b3, rfl, q0, q1, q2, q3, hz⟩ := bed_one hu
    exact ⟨b1, b2, b3, _, _, _, zk, zm, zs, za, zc, zkk, rfl, h1, h2, q0, q1, q2, q3, hz, he⟩
   | [], he, _ => simp [erases] at he
   | _ :: _ :: _, he, _ => simp [erases] at he
  | [], he, _ => simp [erases] at he
  | _ :: _ :: _, he, _ => simp [erases] at he
 | [], he, _ => simp [erases] at he
 | _ :: _ :: _, he, _ => simp [erases] at he
/-- The contracts at a tree that sits. -/
theorem iText_A (x : A) (w : World) (hx : Sits w x) (htab : Lib.TabIs Tryz.prog w "internal/strconv.uint64pow10" .u64 Lib.pow10Tab) : Calls Tryz.prog 6 #[x.val] w fun e w' => e = .returned (.string (textT x.erase)) ∧ Below w.heap.size w w' := by
 have hk := Sits.lies (lo := 0) x hx (fun _ _ => Nat.zero_le _)
 obtain ⟨k, s, m, a, c, kk⟩ := x
 simp only [Sits] at hx
 have h := iText_ok k s m (erases kk) a c w hx.1 (by rw [erases_len]; exact hx.2.1) hk htab
 rw [erases_len] at h
 exact h
theorem sText_A (x : A) (w : World) (hx : Sits w x) (hc : cnt x.erase ≤ 345) : Calls Tryz.prog 7 #[x.val] w fun e w' => e = .returned (.string (textT x.erase)) ∧ Below w.heap.size w w' := by
 have hk := Sits.lies (lo := 0) x hx (fun _ _ => Nat.zero_le _)
 obtain ⟨k, s, m, a, c, kk⟩ := x
 simp only [Sits] at hx
 have h := sText_ok k s m (erases kk) a c w hx.1 (by rw [erases_len]; exact hx.2.1) (by simp only [A.erase] at hc; omega) hk
 rw [erases_len] at h
 exact h
theorem sExpr_A (x : A) (w : World) (hx : Sits w x) (hc : cnt x.erase ≤ 345) : Calls Tryz.prog 8 #[x.val] w fun e w' => e = .returned (.bool (betw (kindT x.erase) 1 8 && fitsS x.erase)) ∧ Below w.heap.size w w' := by
 have hk := Sits.lies (lo := 0) x hx (fun _ _ => Nat.zero_le _)
 obtain ⟨k, s, m, a, c, kk⟩ := x
 simp only [Sits] at hx
 have h := sExpr_ok k s m (erases kk) a c w hx.1 (by rw [erases_len]; exact hx.2.1) (by simp only [A.erase] at hc; omega) hk
 rw [erases_len] at h
 exact h
theorem sCond_A (x : A) (w : World) (hx : Sits w x) (hc : cnt x.erase ≤ 345) : Calls Tryz.prog 9 #[x.val] w fun e w' => e = .returned (.bool (betw (kindT x.erase) 11 16 && fitsS x.erase)) ∧ Below w.heap.size w w' := by
 have hk := Sits.lies (lo := 0) x hx (fun _ _ => Nat.zero_le _)
 obtain ⟨k, s, m, a, c, kk⟩ := x
 simp only [Sits] at hx
 have h := sCond_ok k s m (erases kk) a c w hx.1 (by rw [erases_len]; exact hx.2.1) (by simp only [A.erase] at hc; omega) hk
 rw [erases_len] at h
 exact h
end Go.Proofs.YtjmjmdmnejnlbaaGreatDoor
