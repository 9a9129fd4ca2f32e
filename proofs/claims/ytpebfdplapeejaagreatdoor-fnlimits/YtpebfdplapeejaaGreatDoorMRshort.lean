/-
  CONTRACTS of the program's condSign, stmtForm, formOf.
  CONTRACT of the program's reader's cond.
  CONTRACT of the program's reader's shortStmt: all but assignments.
-/
import Derived.Test.YtpebfdplapeejaaGreatDoorMForm
import Derived.Test.YtpebfdplapeejaaGreatDoorMRexpr
import Derived.Test.YtpebfdplapeejaaGreatDoorMRoneb
namespace Go.Proofs.YtpebfdplapeejaaGreatDoor
open Go.RowKit

def typI (kind : Int) : Nat :=
  if kind = 1 then 134 else
  if kind = 2 then 135 else
  if kind = 3 then 136 else
  if kind = 4 then 137 else
  if kind = 5 then 138 else
  if kind = 6 then 140 else
  if kind = 7 then 140 else
  if kind = 8 then 140 else
  if kind = 31 then 141 else
  if kind = 32 then 142 else
  if kind = 40 then 143 else
  if kind = 11 then 144 else
  if kind = 12 then 144 else
  if kind = 13 then 144 else
  if kind = 14 then 144 else
  if kind = 15 then 144 else
  if kind = 16 then 144 else
  if kind = 21 then 145 else
  if kind = 22 then 146 else
  if kind = 23 then 147 else
  if kind = 24 then 151 else
  if kind = 25 then 152 else
  if kind = 26 then 153 else
  if kind = 27 then 148 else
  if kind = 28 then 150 else
  if kind = 29 then 150 else
  if kind = 30 then 162 else
  163
def rowI (kind : Int) : Rw := rw0 (typI kind)
def signI (kind : Int) : ByteArray :=
  if kind = 11 then ⟨#[60]⟩ else
  if kind = 12 then ⟨#[60, 61]⟩ else
  if kind = 13 then ⟨#[62]⟩ else
  if kind = 14 then ⟨#[62, 61]⟩ else
  if kind = 15 then ⟨#[61, 61]⟩ else
  if kind = 16 then ⟨#[33, 61]⟩ else
  ⟨#[]⟩

set_option maxHeartbeats 800000 in
theorem condSign_any (kind : Int) (w : World) : Calls Tryz.prog 64 #[.int .i64 kind] w fun e w' => e = .returned (.string (signI kind)) ∧ w = w' := by
  by_cases h11 : kind = 11
  · subst h11
    go_enter Tryz.func64, Tryz.ntmps64
    go_wp2
    go_ret
    exact ⟨rfl, rfl⟩
  by_cases h12 : kind = 12
  · subst h12
    go_enter Tryz.func64, Tryz.ntmps64
    go_wp2
    go_ret
    exact ⟨rfl, rfl⟩
  by_cases h13 : kind = 13
  · subst h13
    go_enter Tryz.func64, Tryz.ntmps64
    go_wp2
    go_ret
    exact ⟨rfl, rfl⟩
  by_cases h14 : kind = 14
  · subst h14
    go_enter Tryz.func64, Tryz.ntmps64
    go_wp2
    go_ret
    exact ⟨rfl, rfl⟩
  by_cases h15 : kind = 15
  · subst h15
    go_enter Tryz.func64, Tryz.ntmps64
    go_wp2
    go_ret
    exact ⟨rfl, rfl⟩
  by_cases h16 : kind = 16
  · subst h16
    go_enter Tryz.func64, Tryz.ntmps64
    go_wp2
    go_ret
    exact ⟨rfl, rfl⟩
  have e : signI kind = ⟨#[]⟩ := by simp [signI, h11, h12, h13, h14, h15, h16]
  rw [e]
  go_enter Tryz.func64, Tryz.ntmps64
  go_wp2
  go_ret
  exact ⟨rfl, rfl⟩

set_option maxHeartbeats 1600000 in
theorem stmtForm_any (kind : Int) (w : World) (h1 : ∀ k ∈ [1, 2, 3, 4, 5, 6, 7, 8, 31, 32, 40, 11, 12, 13, 14, 15, 16], kind ≠ k) : Calls Tryz.prog 85 #[.int .i64 kind] w fun e w' => (∃ t v f, e = .returned (.iface t v) ∧ RowOk (rowI kind) t v f) ∧ w = w' := by
  by_cases h21 : kind = 21
  · subst h21
    clear h1
    go_enter Tryz.func85, Tryz.ntmps85
    go_wp2
    go_ret
    exact ⟨⟨_, _, _, rfl, set_row⟩, rfl⟩
  by_cases h22 : kind = 22
  · subst h22
    clear h1
    go_enter Tryz.func85, Tryz.ntmps85
    go_wp2
    go_ret
    exact ⟨⟨_, _, _, rfl, put_row⟩, rfl⟩
  by_cases h23 : kind = 23
  · subst h23
    clear h1
    go_enter Tryz.func85, Tryz.ntmps85
    go_wp2
    go_ret
    exact ⟨⟨_, _, _, rfl, read_row⟩, rfl⟩
  by_cases h24 : kind = 24
  · subst h24
    clear h1
    go_enter Tryz.func85, Tryz.ntmps85
    go_wp2
    go_ret
    exact ⟨⟨_, _, _, rfl, ifs_row⟩, rfl⟩
  by_cases h25 : kind = 25
  · subst h25
    clear h1
    go_enter Tryz.func85, Tryz.ntmps85
    go_wp2
    go_ret
    exact ⟨⟨_, _, _, rfl, while_row⟩, rfl⟩
  by_cases h26 : kind = 26
  · subst h26
    clear h1
    go_enter Tryz.func85, Tryz.ntmps85
    go_wp2
    go_ret
    exact ⟨⟨_, _, _, rfl, fors_row⟩, rfl⟩
  by_cases h27 : kind = 27
  · subst h27
    clear h1
    go_enter Tryz.func85, Tryz.ntmps85
    go_wp2
    go_ret
    exact ⟨⟨_, _, _, rfl, check_row⟩, rfl⟩
  by_cases h28 : kind = 28
  · subst h28
    clear h1
    go_enter Tryz.func85, Tryz.ntmps85
    go_wp2
    go_ret
    exact ⟨⟨_, _, _, rfl, word_row _⟩, rfl⟩
  by_cases h29 : kind = 29
  · subst h29
    clear h1
    go_enter Tryz.func85, Tryz.ntmps85
    go_wp2
    go_ret
    exact ⟨⟨_, _, _, rfl, word_row _⟩, rfl⟩
  by_cases h30 : kind = 30
  · subst h30
    clear h1
    go_enter Tryz.func85, Tryz.ntmps85
    go_wp2
    go_ret
    exact ⟨⟨_, _, _, rfl, block_row⟩, rfl⟩
  have e : rowI kind = rw0 163 := by
    simp at h1
    simp [rowI, typI, h1, h21, h22, h23, h24, h25, h26, h27, h28, h29, h30]
  rw [e]
  clear h1 e
  go_enter Tryz.func85, Tryz.ntmps85
  go_wp2
  go_ret
  exact ⟨⟨_, _, _, rfl, no_row⟩, rfl⟩

set_option maxHeartbeats 1600000 in
theorem formOf_any (kind : Int) (w : World) : Calls Tryz.prog 76 #[.int .i64 kind] w fun e w' => (∃ t v f, e = .returned (.iface t v) ∧ RowOk (rowI kind) t v f) ∧ w = w' := by
  by_cases h1 : kind = 1
  · subst h1
    go_enter Tryz.func76, Tryz.ntmps76
    go_wp2
    go_ret
    exact ⟨⟨_, _, _, rfl, num_row⟩, rfl⟩
  by_cases h2 : kind = 2
  · subst h2
    go_enter Tryz.func76, Tryz.ntmps76
    go_wp2
    go_ret
    exact ⟨⟨_, _, _, rfl, var_row⟩, rfl⟩
  by_cases h3 : kind = 3
  · subst h3
    go_enter Tryz.func76, Tryz.ntmps76
    go_wp2
    go_ret
    exact ⟨⟨_, _, _, rfl, cell_row⟩, rfl⟩
  by_cases h4 : kind = 4
  · subst h4
    go_enter Tryz.func76, Tryz.ntmps76
    go_wp2
    go_ret
    exact ⟨⟨_, _, _, rfl, len_row⟩, rfl⟩
  by_cases h5 : kind = 5
  · subst h5
    go_enter Tryz.func76, Tryz.ntmps76
    go_wp2
    go_ret
    exact ⟨⟨_, _, _, rfl, neg_row⟩, rfl⟩
  by_cases h6 : kind = 6
  · subst h6
    go_enter Tryz.func76, Tryz.ntmps76
    go_wp2
    go_ret
    exact ⟨⟨_, _, _, rfl, pair_row _⟩, rfl⟩
  by_cases h7 : kind = 7
  · subst h7
    go_enter Tryz.func76, Tryz.ntmps76
    go_wp2
    go_ret
    exact ⟨⟨_, _, _, rfl, pair_row _⟩, rfl⟩
  by_cases h8 : kind = 8
  · subst h8
    go_enter Tryz.func76, Tryz.ntmps76
    go_wp2
    go_ret
    exact ⟨⟨_, _, _, rfl, pair_row _⟩, rfl⟩
  by_cases h31 : kind = 31
  · subst h31
    go_enter Tryz.func76, Tryz.ntmps76
    go_wp2
    go_ret
    exact ⟨⟨_, _, _, rfl, name_row⟩, rfl⟩
  by_cases h32 : kind = 32
  · subst h32
    go_enter Tryz.func76, Tryz.ntmps76
    go_wp2
    go_ret
    exact ⟨⟨_, _, _, rfl, array_row⟩, rfl⟩
  by_cases h40 : kind = 40
  · subst h40
    go_enter Tryz.func76, Tryz.ntmps76
    go_wp2
    go_ret
    exact ⟨⟨_, _, _, rfl, prog_row⟩, rfl⟩
  by_cases h11 : kind = 11
  · subst h11
    go_enter Tryz.func76, Tryz.ntmps76
    go_wp2_with fail
    refine (condSign_any 11 _).mono ?_
    rintro e w1 ⟨rfl, rfl⟩
    rw [show signI 11 = ⟨#[60]⟩ from rfl]
    go_wp2
    go_ret
    exact ⟨⟨_, _, _, rfl, cond_row _⟩, rfl⟩
  by_cases h12 : kind = 12
  · subst h12
    go_enter Tryz.func76, Tryz.ntmps76
    go_wp2_with fail
    refine (condSign_any 12 _).mono ?_
    rintro e w1 ⟨rfl, rfl⟩
    rw [show signI 12 = ⟨#[60, 61]⟩ from rfl]
    go_wp2
    go_ret
    exact ⟨⟨_, _, _, rfl, cond_row _⟩, rfl⟩
  by_cases h13 : kind = 13
  · subst h13
    go_enter Tryz.func76, Tryz.ntmps76
    go_wp2_with fail
    refine (condSign_any 13 _).mono ?_
    rintro e w1 ⟨rfl, rfl⟩
    rw [show signI 13 = ⟨#[62]⟩ from rfl]
    go_wp2
    go_ret
    exact ⟨⟨_, _, _, rfl, cond_row _⟩, rfl⟩
  by_cases h14 : kind = 14
  · subst h14
    go_enter Tryz.func76, Tryz.ntmps76
    go_wp2_with fail
    refine (condSign_any 14 _).mono ?_
    rintro e w1 ⟨rfl, rfl⟩
    rw [show signI 14 = ⟨#[62, 61]⟩ from rfl]
    go_wp2
    go_ret
    exact ⟨⟨_, _, _, rfl, cond_row _⟩, rfl⟩
  by_cases h15 : kind = 15
  · subst h15
    go_enter Tryz.func76, Tryz.ntmps76
    go_wp2_with fail
    refine (condSign_any 15 _).mono ?_
    rintro e w1 ⟨rfl, rfl⟩
    rw [show signI 15 = ⟨#[61, 61]⟩ from rfl]
    go_wp2
    go_ret
    exact ⟨⟨_, _, _, rfl, cond_row _⟩, rfl⟩
  by_cases h16 : kind = 16
  · subst h16
    go_enter Tryz.func76, Tryz.ntmps76
    go_wp2_with fail
    refine (condSign_any 16 _).mono ?_
    rintro e w1 ⟨rfl, rfl⟩
    rw [show signI 16 = ⟨#[33, 61]⟩ from rfl]
    go_wp2
    go_ret
    exact ⟨⟨_, _, _, rfl, cond_row _⟩, rfl⟩
  have e : signI kind = ⟨#[]⟩ := by simp [signI, h11, h12, h13, h14, h15, h16]
  have HA := mkHid (show ∀ k ∈ [1, 2, 3, 4, 5, 6, 7, 8, 31, 32, 40, 11, 12, 13, 14, 15, 16], kind ≠ k by intro k hk; simp at hk; omega)
  go_enter Tryz.func76, Tryz.ntmps76
  go_wp2_with fail
  refine (condSign_any kind _).mono ?_
  rintro e1 w1 ⟨rfl, rfl⟩
  rw [e]
  go_wp2_with fail
  refine (stmtForm_any kind _ HA.out).mono ?_
  rintro e w1 ⟨⟨t, v, f, rfl, hf⟩, rfl⟩
  have HF := mkHid hf
  clear hf
  go_wp2
  go_ret
  exact ⟨⟨_, _, _, rfl, HF.out⟩, rfl⟩
end Go.Proofs.YtpebfdplapeejaaGreatDoor
namespace Go.Proofs.YtpebfdplapeejaaGreatDoor
open Go.RowKit
open Pl

theorem relI_sign (s : ByteArray) (c : Nat) (hc : c < 6) (h : s = signI (11 + (c : Int))) : relI s = 11 + (c : Int) := by
  subst h
  rcases (by omega : c = 0 ∨ c = 1 ∨ c = 2 ∨ c = 3 ∨ c = 4 ∨ c = 5) with rfl | rfl | rfl | rfl | rfl | rfl <;> simp [signI, relI]
theorem relI_none (s : ByteArray) (h : ∀ c : Nat, c < 6 → s ≠ signI (11 + (c : Int))) : relI s = 0 := by
  have h0 := h 0 (by decide)
  have h1 := h 1 (by decide)
  have h2 := h 2 (by decide)
  have h3 := h 3 (by decide)
  have h4 := h 4 (by decide)
  have h5 := h 5 (by decide)
  simp [signI] at h0 h1 h2 h3 h4 h5
  simp [relI, h0, h1, h2, h3, h4, h5]
theorem sign_ne (c : Nat) (hc : c < 6) : signI (11 + (c : Int)) ≠ ⟨#[]⟩ := by
  rcases (by omega : c = 0 ∨ c = 1 ∨ c = 2 ∨ c = 3 ∨ c = 4 ∨ c = 5) with rfl | rfl | rfl | rfl | rfl | rfl <;> simp [signI]
theorem isW_iff {ws : List W3} {i : Nat} {s : ByteArray} (hs : s ≠ ⟨#[]⟩) : isW ws i s = true ↔ textW ws i = s := by
  constructor
  · exact isW_text
  · intro h
    by_cases q : i < ws.length
    · rw [isW_of_text q]; simpa using h
    · rw [textW_end (by omega)] at h; exact absurd h.symm hs
def ICond (rb : Nat) (a : Option Addr) (cap : Nat) (ws : List W3) (sz : Nat) (F : Nat) : Prop := ∀ (i : Nat) (w : World), Rd w rb a cap ws i sz →
  Calls Tryz.prog 50 #[.pointer (some ⟨rb, 0, none⟩)] w (Post rb a cap ws sz w (mCond ws F i))
set_option maxRecDepth 100000 in
set_option maxHeartbeats 8000000 in
theorem cond_all {rb : Nat} {a : Option Addr} {cap : Nat} {ws : List W3} {sz F : Nat} (hF : 5 * ws.length + 3 ≤ F) (hE : IExpr rb a cap ws sz F) : ICond rb a cap ws sz F := by
  intro i w h
  rw [show mCond ws F i = (mExpr ws F i).then_ fun x j => if relI (textW ws j) = 0 then .no j else (mExpr ws F (j + 1)).then_ fun y j2 => .ok (.node (relI (textW ws j)) nil_ 0 [x, y]) j2 from rfl]
  have hO1 := fun w h => hE i w (by omega) h
  generalize mExpr ws F i = r at hO1 ⊢
  have H1 := mkHid hO1
  have HA := mkHid h
  have hrb := h.lt
  have HE := mkHid hE
  clear h hO1 hE
  cases r with
  | no p =>
    go_enter Tryz.func50, Tryz.ntmps50
    go_wp2_with fail
    refine (H1.out _ (HA.out.alloc _)).mono ?_
    rintro e w1 ⟨⟨m, rfl⟩, r1, s1⟩
    exact ⟨rfl, ⟨m, rfl⟩, r1, ((Step.refl rb w).alloc _).trans s1⟩
  | ok t j =>
    simp only [Res.then_]
    show Calls _ _ _ _ (Post rb a cap ws sz w (if relI (textW ws j) = 0 then .no j else (mExpr ws F (j + 1)).then_ fun y j2 => .ok (.node (relI (textW ws j)) nil_ 0 [t, y]) j2))
    generalize hR : (if relI (textW ws j) = 0 then Res.no j else (mExpr ws F (j + 1)).then_ fun y j2 => .ok (.node (relI (textW ws j)) nil_ 0 [t, y]) j2) = R
    have HR := mkHid hR
    clear hR
    go_enter Tryz.func50, Tryz.ntmps50
    go_wp2_with fail
    refine (H1.out _ (HA.out.alloc _)).mono ?_
    rintro e w1 ⟨x, rfl, hx, hsx, hnx, r1, s1⟩
    have hG := Grown.first (s1.at (heap_alloc_new w _) (by omega)) hsx hnx (by simp) r1 (((Step.refl rb w).alloc _).trans s1) hrb _ rfl
    have hz : w.heap.size < w1.heap.size := (Array.getElem?_eq_some_iff.1 (s1.at (heap_alloc_new w _) (by omega))).1
    obtain ⟨yk, ys, ym, ya, yc, ykk⟩ := x
    have HG := mkHid hG
    have HX := mkHid hx
    clear hG hx hsx hnx r1 s1 H1 HA
    simp only [A.val]
    go_wp2
    go_loopw [4] (fun v w' => ∃ c : Nat, c ≤ 6 ∧ v = .int .i64 (11 + (c : Int)) ∧ Grown rb a cap ws sz w w1.heap.size w' (.node yk ys ym ya yc ykk) j ∧ ∀ d : Nat, d < c → textW ws j ≠ signI (11 + (d : Int))) (fun v _ => (17 - intOf v).toNat)
    case atStart => exact ⟨0, by omega, rfl, HG.out, fun d hd => by omega⟩
    case round =>
      obtain ⟨c, hc6, rfl, hG, hno⟩ := hrel
      have G0 := mkHid hG
      have HNO := mkHid hno
      clear hG hno HG
      by_cases hc : c < 6
      · have hc16 : (11 + (c : Int)) ≤ 16 := by omega
        have T0 := mkHid (fun w => condSign_any (11 + (c : Int)) w)
        have HNE := mkHid (sign_ne c hc)
        have HREL := mkHid (fun h => relI_sign (textW ws j) c hc h)
        generalize hsg : signI (11 + (c : Int)) = sg at T0 HNE HREL
        have HSG := mkHid hsg
        clear hsg
        by_cases hw : isW ws j sg = true
        · have hjl := isW_lt hw
          have hrel : relI (textW ws j) = 11 + (c : Int) := HREL.out (isW_text hw)
          have hm : (mExpr ws F (j + 1)).then_ (fun y j2 => .ok (.node (11 + (c : Int)) nil_ 0 [t, y]) j2) = R := by
            have := HR.out
            rw [if_neg (by rw [hrel]; omega), hrel] at this
            exact this
          have hO1 := fun w h => HE.out (j + 1) w (by omega) h
          have T1 := mkHid (fun w h => has_yes rb a cap ws j sz sg w h hw)
          generalize mExpr ws F (j + 1) = r at hm hO1
          have H1 := mkHid hO1
          clear hO1 hw hrel HR HREL HNE HSG HNO
          go_wp2_with fail
          refine (T0.out _).mono ?_
          rintro e w9 ⟨rfl, rfl⟩
          go_wp2_with fail
          refine (T1.out _ G0.out.rd).mono ?_
          rintro e w2 ⟨rfl, r2, s2⟩
          have G2 := mkHid (G0.out.on s2 r2)
          clear r2 s2 T1 T0
          obtain ⟨d0, d1, d2, d3, e0, e1, e2, e3⟩ := four_of (show w2.heap[w1.heap.size]? = some (.cells #[.int .i64 yk, .string ys, .int .i64 ym, .slice ya ykk.length yc] 33 (0, 0)) from G2.out.here)
          obtain ⟨c0, c1, c2, c3, f0, f1, f2, f3⟩ := four_of G2.out.res
          have hp2 := G2.out.plt
          cases r with
          | no p =>
            have HR : Hid (R = .no p) := hm.symm
            clear hm
            go_wp2
            refine wp_region_any (by kernel_rfl) ?_
            change wpAny _ _ _ _ _ _ _ (World.drew _)
            refine wpAny_take (i := 0) (v := ?v1) rfl (by kernel_rfl) (by kernel_rfl) (by kernel_rfl) (fun _ _ _ h => h) (Or.inl ⟨by rfl, ?hy1⟩) ?rest1
            case hy1 => intro w; go_simp; try with_reducible rfl
            refine wpAny_take (i := 2) (v := ?v2) rfl (by kernel_rfl) (by kernel_rfl) (by kernel_rfl) (fun _ _ _ h => h) (Or.inl ⟨by rfl, ?hy2⟩) ?rest2
            case hy2 => intro w; go_simp; try with_reducible rfl
            refine wpAny_ready (rs := [1, 3]) (by kernel_rfl) (by simp) ?_
            refine AllReady.cons rfl (fun K hK => ?_) ?_
            · go_simp
              refine hK _ _ ?_
              clear hK K
              refine wpAny_ready (rs := [3]) (by kernel_rfl) (by simp) ?_
              refine AllReady.cons rfl (fun K hK => ?_) AllReady.nil
              go_simp
              refine (H1.out _ G2.out.rd.drew).mono ?_
              rintro e w3 ⟨⟨m, rfl⟩, r3, s3⟩
              exact ⟨rfl, by rw [HR.out]; exact ⟨⟨m, rfl⟩, r3, G2.out.step.drew.trans s3⟩⟩
            · refine AllReady.cons rfl (fun K hK => ?_) AllReady.nil
              go_simp
              refine (H1.out _ G2.out.rd.drew).mono ?_
              rintro e w3 ⟨⟨m, rfl⟩, r3, s3⟩
              exact ⟨rfl, by rw [HR.out]; exact ⟨⟨m, rfl⟩, r3, G2.out.step.drew.trans s3⟩⟩
          | ok y j3 =>
            have HR : Hid (R = .ok (.node (11 + (c : Int)) nil_ 0 [t, y]) j3) := hm.symm
            clear hm
            go_wp2
            go_region_with (first | (go_at_call 52; refine (H1.out _ G2.out.rd.drew).mono ?_; rintro e w3 ⟨z, rfl, hz3, hsz, hnz, r3, s3⟩; obtain ⟨zk, zs, zm, za, zc, zkk⟩ := z; simp only [A.val]; have T3 := G2.out.drew.on s3 r3; obtain ⟨b0, b1, b2, b3, g0, g1, g2, g3⟩ := four_of (show w3.heap[w1.heap.size]? = some (.cells #[.int .i64 yk, .string ys, .int .i64 ym, .slice ya ykk.length yc] 33 (0, 0)) from T3.here); obtain ⟨h0, h1, h2, h3, k0, k1, k2, k3⟩ := four_of T3.res; have hp3 : w1.heap.size < w3.heap.size := T3.plt; have hq3 : w.heap.size < w3.heap.size := (by omega); have HT3 := mkHid T3; have HZ := mkHid hz3; have HSZ := mkHid hsz; have HNZ := mkHid hnz; clear T3 hz3 hsz hnz r3 s3))
            all_goals
                go_wp2
                obtain ⟨q0, q1, q2, q3⟩ := put4_cells HT3.out.res (.int .i64 (11 + (c : Int))) (.string ⟨#[]⟩) (.int .i64 0) (.slice (some ⟨w3.heap.size, 0, none⟩) 2 2) (.cells #[.int .i64 yk, .string ys, .int .i64 ym, .slice ya ykk.length yc, .int .i64 zk, .string zs, .int .i64 zm, .slice za zkk.length zc] 33)
                refine bodyPost_ret (v := (A.node (11 + (c : Int)) ⟨#[]⟩ 0 (some ⟨w3.heap.size, 0, none⟩) 2 [.node yk ys ym ya yc ykk, .node zk zs zm za zc zkk]).val) (by simp [results, Tryz.results50, go_sem, q0, q1, q2, q3, A.val]) rfl ?_
                have hlx := Sits.lt _ G2.out.sits
                have hE2 := end_list (n := w.heap.size + 1) (11 + (c : Int)) 0 ⟨#[]⟩ [.node yk ys ym ya yc ykk, .node zk zs zm za zc zkk] _ 2 HT3.out.res HT3.out.rd hrb HT3.out.step ⟨HT3.out.sits, HSZ.out, trivial⟩ (NewL.snoc (xs := [.node yk ys ym ya yc ykk]) (n1 := w2.heap.size) (NewL.one G2.out.new) (fun b hb => hlx b (by rwa [feet_one] at hb)) HNZ.out (by omega)) (by omega) (by simp [maxLen]) rfl (by decide)
                have he : erases [A.node yk ys ym ya yc ykk, .node zk zs zm za zc zkk] = [t, y] := by simp only [erases]; rw [HX.out, HZ.out]
                rw [he] at hE2
                rw [HR.out]
                exact hE2
        · have T1 := mkHid (fun w h => has_no rb a cap ws j sz sg w h (by simpa using hw))
          have hne : textW ws j ≠ sg := fun h => hw ((isW_iff HNE.out).2 h)
          have HN2 : Hid (∀ d : Nat, d < c + 1 → textW ws j ≠ signI (11 + (d : Int))) := fun d hd => by
            rcases (by omega : d < c ∨ d = c) with q | q
            · exact HNO.out d q
            · subst q; rw [HSG.out]; exact hne
          clear hne hw HREL HNE HSG HNO
          go_wp2_with fail
          refine (T0.out _).mono ?_
          rintro e w9 ⟨rfl, rfl⟩
          go_wp2_with fail
          refine (T1.out _ G0.out.rd).mono ?_
          rintro e w2 ⟨rfl, r2, s2⟩
          have G2 := mkHid (G0.out.on s2 r2)
          clear r2 s2 T1 T0
          go_wp2
          go_roundw
          case rel => exact ⟨c + 1, by omega, by go_num, G2.out, HN2.out⟩
          case measure => simp [intOf]; omega
      · have hR : R = .no j := by
          have hz0 : relI (textW ws j) = 0 := relI_none _ (fun d hd => HNO.out d (by omega))
          rw [← HR.out, if_pos hz0]
        have HR2 := mkHid hR
        have hc17 : ¬ (11 + (c : Int)) ≤ 16 := by omega
        clear hR HR HNO
        go_wp2
        exact ⟨rfl, by rw [HR2.out]; exact ⟨⟨_, rfl⟩, G0.out.rd, G0.out.step⟩⟩
end Go.Proofs.YtpebfdplapeejaaGreatDoor
namespace Go.Proofs.YtpebfdplapeejaaGreatDoor
open Go.RowKit
open Pl

set_option maxRecDepth 100000 in
set_option maxHeartbeats 8000000 in
theorem short_read {rb : Nat} {a : Option Addr} {cap : Nat} {ws : List W3} {sz F : Nat} (he : Env ws) (i : Nat) (w : World) (h : Rd w rb a cap ws i sz) (h1 : isW ws i ⟨#[114, 101, 97, 100]⟩ = true) :
    Calls Tryz.prog 53 #[.pointer (some ⟨rb, 0, none⟩)] w (Post rb a cap ws sz w (mShort ws F i)) := by
  have hm : mShort ws F i = wantK ws (i + 1) 1 (.ok (.node 23 (textW ws (i + 1)) 0 []) (i + 2)) := by unfold mShort; rw [if_pos h1]
  rw [hm]
  clear hm
  have ht := he.text (i + 1)
  by_cases h2 : kindW ws (i + 1) = 1
  · rw [show wantK ws (i + 1) 1 (.ok (.node 23 (textW ws (i + 1)) 0 []) (i + 2)) = .ok (.node 23 (textW ws (i + 1)) 0 []) (i + 2) by unfold wantK; rw [if_pos h2]]
    have HA := mkHid h
    have hrb := h.lt
    have C0 := mkHid (fun w h => has_yes rb a cap ws i sz ⟨#[114, 101, 97, 100]⟩ w h h1)
    have C1 := mkHid (fun w h => name_yes rb a cap ws (i + 1) sz w h h2)
    clear h h1 h2 he
    go_enter Tryz.func53, Tryz.ntmps53
    go_wp2_with fail
    refine (C0.out _ (HA.out.alloc _)).mono ?_
    rintro e w1 ⟨rfl, r, s⟩
    have R1 := mkHid r
    have S1 := mkHid (((Step.refl rb w).alloc _).trans s)
    have P1 := mkHid (s.at (heap_alloc_new w _) (by omega))
    clear r s
    go_wp2_with fail
    refine (C1.out _ R1.out).mono ?_
    rintro e w2 ⟨rfl, r, s⟩
    have R2 := mkHid r
    have S2 := mkHid (S1.out.trans s)
    have P2 := mkHid (s.at P1.out (by omega))
    clear r s
    obtain ⟨c0, c1, c2, c3, f0, f1, f2, f3⟩ := four_of P2.out
    go_wp2
    obtain ⟨q0, q1, q2, q3⟩ := put4_cells0 P2.out (.int .i64 23) (.string (textW ws (i + 1))) (.int .i64 0) (.slice none 0 0)
    exact bodyPost_ret (v := (A.node 23 (textW ws (i + 1)) 0 none 0 []).val) (by simp [results, Tryz.results53, go_sem, q0, q1, q2, q3, A.val]) rfl (end_leaf 23 0 (textW ws (i + 1)) R2.out hrb S2.out ht)
  · rw [show wantK ws (i + 1) 1 (.ok (.node 23 (textW ws (i + 1)) 0 []) (i + 2)) = .no (i + 1) by unfold wantK; rw [if_neg h2]]
    have HA := mkHid h
    have hrb := h.lt
    have C0 := mkHid (fun w h => has_yes rb a cap ws i sz ⟨#[114, 101, 97, 100]⟩ w h h1)
    have C1 := mkHid (fun w h => name_no rb a cap ws (i + 1) sz w h h2)
    clear h h1 h2 he
    go_enter Tryz.func53, Tryz.ntmps53
    go_wp2_with fail
    refine (C0.out _ (HA.out.alloc _)).mono ?_
    rintro e w1 ⟨rfl, r, s⟩
    have R1 := mkHid r
    have S1 := mkHid (((Step.refl rb w).alloc _).trans s)
    have P1 := mkHid (s.at (heap_alloc_new w _) (by omega))
    clear r s
    go_wp2_with fail
    refine (C1.out _ R1.out).mono ?_
    rintro e w2 ⟨⟨m, rfl⟩, r, s⟩
    exact ⟨rfl, ⟨m, rfl⟩, r, S1.out.trans s⟩
set_option maxRecDepth 100000 in
set_option maxHeartbeats 8000000 in
theorem short_check {rb : Nat} {a : Option Addr} {cap : Nat} {ws : List W3} {sz F : Nat} (hC : ICond rb a cap ws sz F) (i : Nat) (w : World) (h : Rd w rb a cap ws i sz) (n0 : isW ws i ⟨#[114, 101, 97, 100]⟩ = false) (h1 : isW ws i ⟨#[99, 104, 101, 99, 107]⟩ = true) :
    Calls Tryz.prog 53 #[.pointer (some ⟨rb, 0, none⟩)] w (Post rb a cap ws sz w (mShort ws F i)) := by
  have hm : mShort ws F i = (mCond ws F (i + 1)).then_ fun x j => .ok (.node 27 nil_ 0 [x]) j := by unfold mShort; rw [if_neg (by rw [n0]; decide), if_pos h1]
  rw [hm]
  have hO1 := fun w h => hC (i + 1) w h
  generalize mCond ws F (i + 1) = r at hO1 ⊢
  have HO := mkHid hO1
  have HA := mkHid h
  have hrb := h.lt
  have C0 := mkHid (fun w h => has_no rb a cap ws i sz ⟨#[114, 101, 97, 100]⟩ w h n0)
  have C1 := mkHid (fun w h => has_yes rb a cap ws i sz ⟨#[99, 104, 101, 99, 107]⟩ w h h1)
  clear hm hC h h1 n0 hO1
  go_enter Tryz.func53, Tryz.ntmps53
  go_wp2_with fail
  refine (C0.out _ (HA.out.alloc _)).mono ?_
  rintro e w1 ⟨rfl, r, s⟩
  have R1 := mkHid r
  have S1 := mkHid (((Step.refl rb w).alloc _).trans s)
  have P1 := mkHid (s.at (heap_alloc_new w _) (by omega))
  clear r s
  go_wp2_with fail
  refine (C1.out _ R1.out).mono ?_
  rintro e w2 ⟨rfl, r, s⟩
  have R2 := mkHid r
  have S2 := mkHid (S1.out.trans s)
  have P2 := mkHid (s.at P1.out (by omega))
  clear r s
  go_wp2_with fail
  refine (HO.out w2 R2.out).mono ?_
  intro e w3 hp
  cases r with
  | no p =>
    obtain ⟨⟨m, rfl⟩, r2, s2⟩ := hp
    exact ⟨rfl, ⟨m, rfl⟩, r2, S2.out.trans s2⟩
  | ok t j =>
    obtain ⟨x, rfl, ht, hsx, hnx, r, s⟩ := hp
    have R3 := mkHid r
    have S3 := mkHid (S2.out.trans s)
    have P3 := mkHid (s.at P2.out (by omega))
    clear r s
    have z2 : w.heap.size < w2.heap.size := (Array.getElem?_eq_some_iff.1 P2.out).1
    have z3 : w.heap.size < w3.heap.size := (Array.getElem?_eq_some_iff.1 P3.out).1
    obtain ⟨k, s, m, xa, xc, xk⟩ := x
    have HS := mkHid hsx
    have HN := mkHid hnx
    have HE := mkHid ht
    obtain ⟨c0, c1, c2, c3, f0, f1, f2, f3⟩ := four_of P3.out
    clear hsx hnx ht
    simp only [A.val]
    go_wp2
    obtain ⟨q0, q1, q2, q3⟩ := put4_cells P3.out (.int .i64 27) (.string ⟨#[]⟩) (.int .i64 0) (.slice (some ⟨w3.heap.size, 0, none⟩) 1 1) (.cells #[.int .i64 k, .string s, .int .i64 m, .slice xa xk.length xc] 33)
    refine bodyPost_ret (v := (A.node 27 ⟨#[]⟩ 0 (some ⟨w3.heap.size, 0, none⟩) 1 [.node k s m xa xc xk]).val) (by simp [results, Tryz.results53, go_sem, q0, q1, q2, q3, A.val]) rfl ?_
    have hE := end_list 27 0 ⟨#[]⟩ [.node k s m xa xc xk] #[.int .i64 k, .string s, .int .i64 m, .slice xa xk.length xc] 1 P3.out R3.out hrb S3.out (sitsL_one HS.out) (NewL.one HN.out) z2 (by simp [maxLen]) rfl (by decide)
    have he : erases [A.node k s m xa xc xk] = [t] := by simp only [erases]; rw [HE.out]
    rw [he] at hE
    exact hE
set_option maxRecDepth 100000 in
set_option maxHeartbeats 8000000 in
theorem short_skip {rb : Nat} {a : Option Addr} {cap : Nat} {ws : List W3} {sz F : Nat} (i : Nat) (w : World) (h : Rd w rb a cap ws i sz) (n0 : isW ws i ⟨#[114, 101, 97, 100]⟩ = false) (n1 : isW ws i ⟨#[99, 104, 101, 99, 107]⟩ = false) (h1 : isW ws i ⟨#[115, 107, 105, 112]⟩ = true) :
    Calls Tryz.prog 53 #[.pointer (some ⟨rb, 0, none⟩)] w (Post rb a cap ws sz w (mShort ws F i)) := by
  rw [show mShort ws F i = .ok (.node 28 nil_ 0 []) (i + 1) by unfold mShort; rw [if_neg (by rw [n0]; decide), if_neg (by rw [n1]; decide), if_pos h1]]
  have HA := mkHid h
  have hrb := h.lt
  have C0 := mkHid (fun w h => has_no rb a cap ws i sz ⟨#[114, 101, 97, 100]⟩ w h n0)
  have C1 := mkHid (fun w h => has_no rb a cap ws i sz ⟨#[99, 104, 101, 99, 107]⟩ w h n1)
  have C2 := mkHid (fun w h => has_yes rb a cap ws i sz ⟨#[115, 107, 105, 112]⟩ w h h1)
  clear h h1 n0 n1
  go_enter Tryz.func53, Tryz.ntmps53
  go_wp2_with fail
  refine (C0.out _ (HA.out.alloc _)).mono ?_
  rintro e w1 ⟨rfl, r, s⟩
  have R1 := mkHid r
  have S1 := mkHid (((Step.refl rb w).alloc _).trans s)
  have P1 := mkHid (s.at (heap_alloc_new w _) (by omega))
  clear r s
  go_wp2_with fail
  refine (C1.out _ R1.out).mono ?_
  rintro e w2 ⟨rfl, r, s⟩
  have R2 := mkHid r
  have S2 := mkHid (S1.out.trans s)
  have P2 := mkHid (s.at P1.out (by omega))
  clear r s
  go_wp2_with fail
  refine (C2.out _ R2.out).mono ?_
  rintro e w3 ⟨rfl, r, s⟩
  have R3 := mkHid r
  have S3 := mkHid (S2.out.trans s)
  have P3 := mkHid (s.at P2.out (by omega))
  clear r s
  obtain ⟨c0, c1, c2, c3, f0, f1, f2, f3⟩ := four_of P3.out
  go_wp2
  obtain ⟨q0, q1, q2, q3⟩ := put4_cells0 P3.out (.int .i64 28) (.string ⟨#[]⟩) (.int .i64 0) (.slice none 0 0)
  exact bodyPost_ret (v := (A.node 28 ⟨#[]⟩ 0 none 0 []).val) (by simp [results, Tryz.results53, go_sem, q0, q1, q2, q3, A.val]) rfl (end_leaf 28 0 ⟨#[]⟩ R3.out hrb S3.out (by decide))
set_option maxRecDepth 100000 in
set_option maxHeartbeats 8000000 in
theorem short_stop {rb : Nat} {a : Option Addr} {cap : Nat} {ws : List W3} {sz F : Nat} (i : Nat) (w : World) (h : Rd w rb a cap ws i sz) (n0 : isW ws i ⟨#[114, 101, 97, 100]⟩ = false) (n1 : isW ws i ⟨#[99, 104, 101, 99, 107]⟩ = false) (n2 : isW ws i ⟨#[115, 107, 105, 112]⟩ = false) (h1 : isW ws i ⟨#[115, 116, 111, 112]⟩ = true) :
    Calls Tryz.prog 53 #[.pointer (some ⟨rb, 0, none⟩)] w (Post rb a cap ws sz w (mShort ws F i)) := by
  rw [show mShort ws F i = .ok (.node 29 nil_ 0 []) (i + 1) by unfold mShort; rw [if_neg (by rw [n0]; decide), if_neg (by rw [n1]; decide), if_neg (by rw [n2]; decide), if_pos h1]]
  have HA := mkHid h
  have hrb := h.lt
  have C0 := mkHid (fun w h => has_no rb a cap ws i sz ⟨#[114, 101, 97, 100]⟩ w h n0)
  have C1 := mkHid (fun w h => has_no rb a cap ws i sz ⟨#[99, 104, 101, 99, 107]⟩ w h n1)
  have C2 := mkHid (fun w h => has_no rb a cap ws i sz ⟨#[115, 107, 105, 112]⟩ w h n2)
  have C3 := mkHid (fun w h => has_yes rb a cap ws i sz ⟨#[115, 116, 111, 112]⟩ w h h1)
  clear h h1 n0 n1 n2
  go_enter Tryz.func53, Tryz.ntmps53
  go_wp2_with fail
  refine (C0.out _ (HA.out.alloc _)).mono ?_
  rintro e w1 ⟨rfl, r, s⟩
  have R1 := mkHid r
  have S1 := mkHid (((Step.refl rb w).alloc _).trans s)
  have P1 := mkHid (s.at (heap_alloc_new w _) (by omega))
  clear r s
  go_wp2_with fail
  refine (C1.out _ R1.out).mono ?_
  rintro e w2 ⟨rfl, r, s⟩
  have R2 := mkHid r
  have S2 := mkHid (S1.out.trans s)
  have P2 := mkHid (s.at P1.out (by omega))
  clear r s
  go_wp2_with fail
  refine (C2.out _ R2.out).mono ?_
  rintro e w3 ⟨rfl, r, s⟩
  have R3 := mkHid r
  have S3 := mkHid (S2.out.trans s)
  have P3 := mkHid (s.at P2.out (by omega))
  clear r s
  go_wp2_with fail
  refine (C3.out _ R3.out).mono ?_
  rintro e w4 ⟨rfl, r, s⟩
  have R4 := mkHid r
  have S4 := mkHid (S3.out.trans s)
  have P4 := mkHid (s.at P3.out (by omega))
  clear r s
  obtain ⟨c0, c1, c2, c3, f0, f1, f2, f3⟩ := four_of P4.out
  go_wp2
  obtain ⟨q0, q1, q2, q3⟩ := put4_cells0 P4.out (.int .i64 29) (.string ⟨#[]⟩) (.int .i64 0) (.slice none 0 0)
  exact bodyPost_ret (v := (A.node 29 ⟨#[]⟩ 0 none 0 []).val) (by simp [results, Tryz.results53, go_sem, q0, q1, q2, q3, A.val]) rfl (end_leaf 29 0 ⟨#[]⟩ R4.out hrb S4.out (by decide))
set_option maxRecDepth 100000 in
set_option maxHeartbeats 8000000 in
theorem short_none {rb : Nat} {a : Option Addr} {cap : Nat} {ws : List W3} {sz F : Nat} (i : Nat) (w : World) (h : Rd w rb a cap ws i sz) (n0 : isW ws i ⟨#[114, 101, 97, 100]⟩ = false) (n1 : isW ws i ⟨#[99, 104, 101, 99, 107]⟩ = false) (n2 : isW ws i ⟨#[115, 107, 105, 112]⟩ = false) (n3 : isW ws i ⟨#[115, 116, 111, 112]⟩ = false) (h1 : kindW ws i ≠ 1) :
    Calls Tryz.prog 53 #[.pointer (some ⟨rb, 0, none⟩)] w (Post rb a cap ws sz w (mShort ws F i)) := by
  rw [show mShort ws F i = .no i by unfold mShort; rw [if_neg (by rw [n0]; decide), if_neg (by rw [n1]; decide), if_neg (by rw [n2]; decide), if_neg (by rw [n3]; decide)]; unfold wantK; rw [if_neg h1]]
  have HA := mkHid h
  have hrb := h.lt
  have C0 := mkHid (fun w h => has_no rb a cap ws i sz ⟨#[114, 101, 97, 100]⟩ w h n0)
  have C1 := mkHid (fun w h => has_no rb a cap ws i sz ⟨#[99, 104, 101, 99, 107]⟩ w h n1)
  have C2 := mkHid (fun w h => has_no rb a cap ws i sz ⟨#[115, 107, 105, 112]⟩ w h n2)
  have C3 := mkHid (fun w h => has_no rb a cap ws i sz ⟨#[115, 116, 111, 112]⟩ w h n3)
  have C4 := mkHid (fun w h => name_no rb a cap ws i sz w h h1)
  clear h h1 n0 n1 n2 n3
  go_enter Tryz.func53, Tryz.ntmps53
  go_wp2_with fail
  refine (C0.out _ (HA.out.alloc _)).mono ?_
  rintro e w1 ⟨rfl, r, s⟩
  have R1 := mkHid r
  have S1 := mkHid (((Step.refl rb w).alloc _).trans s)
  have P1 := mkHid (s.at (heap_alloc_new w _) (by omega))
  clear r s
  go_wp2_with fail
  refine (C1.out _ R1.out).mono ?_
  rintro e w2 ⟨rfl, r, s⟩
  have R2 := mkHid r
  have S2 := mkHid (S1.out.trans s)
  have P2 := mkHid (s.at P1.out (by omega))
  clear r s
  go_wp2_with fail
  refine (C2.out _ R2.out).mono ?_
  rintro e w3 ⟨rfl, r, s⟩
  have R3 := mkHid r
  have S3 := mkHid (S2.out.trans s)
  have P3 := mkHid (s.at P2.out (by omega))
  clear r s
  go_wp2_with fail
  refine (C3.out _ R3.out).mono ?_
  rintro e w4 ⟨rfl, r, s⟩
  have R4 := mkHid r
  have S4 := mkHid (S3.out.trans s)
  have P4 := mkHid (s.at P3.out (by omega))
  clear r s
  go_wp2_with fail
  refine (C4.out _ R4.out).mono ?_
  rintro e w5 ⟨⟨m, rfl⟩, r, s⟩
  exact ⟨rfl, ⟨m, rfl⟩, r, S4.out.trans s⟩
end Go.Proofs.YtpebfdplapeejaaGreatDoor
