/-
  CONTRACTS of both ValReads.
-/
import Derived.Test.YtiihjoliodemmaaDoorRp
import Derived.Test.YtiihjoliodemmaaDoorShelfs
namespace Go.Proofs.YtiihjoliodemmaaDoor
open Go.RowKit
open Go.Lib (itoa)

def retV (r : Option (Int × Int × Bool)) : Value := .tuple #[.agg #[.int .i64 (r.getD (0, 0, false)).1, .int .i64 (r.getD (0, 0, false)).2.1, .bool (r.getD (0, 0, false)).2.2], .bool r.isSome]
/-- What the text is read as. -/
def ReadsV (l : List UInt8) : Option (Int × Int × Bool) → Prop
  | some p => okB p.1 p.2.1 = true ∧ l = (textV p.1 p.2.1 p.2.2).data.toList
  | none => ∀ a b s, okB a b = true → l ≠ (textV a b s).data.toList
def orL : List UInt8 := [32, 111, 114, 32, 117, 110, 119, 114, 105, 116, 116, 101, 110]
theorem textV_t {a b : Int} (h : okB a b = true) : (textV a b true).data.toList = (textM a b).data.toList := by unfold textV; rw [h]; rfl
theorem textV_f {a b : Int} (h : okB a b = true) : (textV a b false).data.toList = (textM a b).data.toList ++ orL := by
  unfold textV
  rw [h]
  show ((textM a b) ++ orB).data.toList = _
  rw [ByteArray.data_append, Array.toList_append]
  rfl
/-- The last byte of a range's text is no n. -/
theorem last_rng {a b : Int} (h : okB a b = true) : (textM a b).data.toList.getLast? ≠ some 110 := by
  cases hi : isB a b
  · rw [textM_non h hi]; decide
  · rw [textM_rng h hi]
    unfold rngL
    intro e
    have hn := itoa_ne b
    cases hb : itoa b with
    | nil => exact hn hb
    | cons x y =>
      rw [List.getLast?_append, hb] at e
      have e2 : (x :: y).getLast? = some 110 := by simpa using e
      have hm := itoa_all b 110 (by rw [hb]; exact List.mem_of_getLast? e2)
      revert hm; decide
theorem not_or {a b : Int} (h : okB a b = true) (q : List UInt8) : (textM a b).data.toList ≠ q ++ orL := by
  intro e
  have h1 := last_rng h
  rw [e, List.getLast?_append] at h1
  exact h1 rfl
/-- With the words behind it: the rest is read. -/
theorem readsV_cut {l q : List UInt8} (e : l = q ++ orL) {r : Option (Int × Int)} (h : ReadsR q r) : ReadsV l (r.map fun p => (p.1, p.2, false)) := by
  cases r with
  | some p => exact ⟨h.1, by rw [e, h.2]; exact (textV_f h.1).symm⟩
  | none =>
    intro a b s hok e2
    cases s with
    | true => rw [e, textV_t hok] at e2; exact not_or hok q e2.symm
    | false => rw [e, textV_f hok] at e2; exact h a b hok (List.append_cancel_right e2)
/-- Without them: the whole is read. -/
theorem readsV_whole {l : List UInt8} (e : ∀ q, l ≠ q ++ orL) {r : Option (Int × Int)} (h : ReadsR l r) : ReadsV l (r.map fun p => (p.1, p.2, true)) := by
  cases r with
  | some p => exact ⟨h.1, by rw [h.2]; exact (textV_t h.1).symm⟩
  | none =>
    intro a b s hok e2
    cases s with
    | true => rw [textV_t hok] at e2; exact h a b hok e2
    | false => rw [textV_f hok] at e2; exact e _ e2
/-- The words alone are nothing. -/
theorem readsV_words : ReadsV orL none := by
  intro a b s hok e
  cases s with
  | true => rw [textV_t hok] at e; exact not_or hok [] e.symm
  | false =>
    rw [textV_f hok] at e
    have h1 := textM_pos hok
    have := congrArg List.length e
    rw [List.length_append, ba_len] at this
    omega
theorem readsV_same {l : List UInt8} {r1 r2 : Option (Int × Int × Bool)} (h1 : ReadsV l r1) (h2 : ReadsV l r2) : r1 = r2 := by
  cases r1 with
  | none => cases r2 with
    | none => rfl
    | some q => exact absurd h2.2 (h1 _ _ _ h2.1)
  | some p => cases r2 with
    | none => exact absurd h1.2 (h2 _ _ _ h1.1)
    | some q =>
      obtain ⟨a, b, s⟩ := p
      obtain ⟨c, d, t⟩ := q
      obtain ⟨k1, e1⟩ := h1
      obtain ⟨k2, e2⟩ := h2
      simp only at k1 e1 k2 e2
      have e := e1.symm.trans e2
      cases s <;> cases t
      · rw [textV_f k1, textV_f k2] at e
        have := textM_inj k1 k2 (List.append_cancel_right e)
        rw [this.1, this.2]
      · rw [textV_f k1, textV_t k2] at e; exact absurd e.symm (not_or k2 _)
      · rw [textV_t k1, textV_f k2] at e; exact absurd e (not_or k1 _)
      · rw [textV_t k1, textV_t k2] at e
        have := textM_inj k1 k2 e
        rw [this.1, this.2]
theorem suf_yes {l : List UInt8} (h : Lib.hasSuffix l orL = true) : l = l.take (l.length - 13) ++ orL := by
  obtain ⟨q, hq⟩ := List.isSuffixOf_iff_suffix.1 h
  have hlen := congrArg List.length hq
  rw [List.length_append] at hlen
  have e : l.take (l.length - 13) = q := by
    have e13 : orL.length = 13 := rfl
    rw [← hq, show (q ++ orL).length - 13 = q.length by rw [List.length_append]; omega, List.take_left]
  rw [e]
  exact hq.symm
theorem suf_no {l : List UInt8} (h : Lib.hasSuffix l orL = false) (q : List UInt8) : l ≠ q ++ orL := by
  intro e
  have : Lib.hasSuffix l orL = true := List.isSuffixOf_iff_suffix.2 ⟨q, e.symm⟩
  rw [h] at this
  cases this
set_option maxRecDepth 100000 in
set_option maxHeartbeats 800000 in
theorem lcutSuffix_any (s : ByteArray) (w : World) (hs : s.size ≤ 1048576) : Calls Tryd.prog 104 #[.string s, .string ⟨#[32, 111, 114, 32, 117, 110, 119, 114, 105, 116, 116, 101, 110]⟩] w fun e w' => e = .returned (.tuple #[.string (if Lib.hasSuffix s.data.toList orL then s.extract 0 (s.size - 13) else s), .bool (Lib.hasSuffix s.data.toList orL)]) ∧ w = w' := by
  have HS := mkHid (Tryd.stringslite_HasSuffix s ⟨#[32, 111, 114, 32, 117, 110, 119, 114, 105, 116, 116, 101, 110]⟩ w (by omega))
  cases h : Lib.hasSuffix s.data.toList orL
  · have HC : Hid (Calls Tryd.prog 134 #[.string s, .string ⟨#[32, 111, 114, 32, 117, 110, 119, 114, 105, 116, 116, 101, 110]⟩] w fun e w' => e = .returned (.bool false) ∧ w' = w) := mkHid (by rw [← h]; exact HS.out)
    clear HS h
    go_enter Tryd.func104, Tryd.ntmps104
    go_wp2_with fail
    refine HC.out.mono ?_
    rintro e w' ⟨rfl, rfl⟩
    go_wp2
    exact bodyPost_ret (v := .tuple #[.string s, .bool false]) (by simp [results, Tryd.results104, go_sem]) rfl ⟨rfl, rfl⟩
  · have HC : Hid (Calls Tryd.prog 134 #[.string s, .string ⟨#[32, 111, 114, 32, 117, 110, 119, 114, 105, 116, 116, 101, 110]⟩] w fun e w' => e = .returned (.bool true) ∧ w' = w) := mkHid (by rw [← h]; exact HS.out)
    have h13 : 13 ≤ s.size := by
      have := congrArg List.length (suf_yes h)
      rw [List.length_append, ba_len] at this
      have e13 : orL.length = 13 := rfl
      omega
    clear HS h
    have hw : IntKind.i64.wrap ((s.size : Int) - 13) = ((s.size - 13 : Nat) : Int) := by rw [IntWalk.i64_in _ ⟨by omega, by omega⟩]; omega
    have hle : s.size - 13 ≤ s.size := by omega
    go_enter Tryd.func104, Tryd.ntmps104
    go_wp2_with fail
    refine HC.out.mono ?_
    rintro e w' ⟨rfl, rfl⟩
    go_wp2
    exact bodyPost_ret (v := .tuple #[.string (s.extract 0 (s.size - 13)), .bool true]) (by simp [results, Tryd.results104, go_sem]) rfl ⟨rfl, rfl⟩
set_option maxRecDepth 100000 in
theorem cutSuffix_any (s : ByteArray) (w : World) (hs : s.size ≤ 1048576) : Calls Tryd.prog 53 #[.string s, .string ⟨#[32, 111, 114, 32, 117, 110, 119, 114, 105, 116, 116, 101, 110]⟩] w fun e w' => e = .returned (.tuple #[.string (if Lib.hasSuffix s.data.toList orL then s.extract 0 (s.size - 13) else s), .bool (Lib.hasSuffix s.data.toList orL)]) ∧ w = w' := by
  have HC := mkHid (lcutSuffix_any s w hs)
  generalize (if Lib.hasSuffix s.data.toList orL then s.extract 0 (s.size - 13) else s) = t at *
  generalize Lib.hasSuffix s.data.toList orL = b at *
  go_enter Tryd.func53, Tryd.ntmps53
  go_wp2_with fail
  refine HC.out.mono ?_
  rintro e w' ⟨rfl, rfl⟩
  go_wp2
  exact bodyPost_ret (v := .tuple #[.string t, .bool b]) (by simp [results, Tryd.results53, go_sem]) rfl ⟨rfl, rfl⟩
/-- A Val in a block that may be written. -/
structure V3 (v : World) (X : Nat) (a b : Int) (s : Bool) : Prop where
  c0 : v.cell? ⟨X, 0, none⟩ = some (.int .i64 a)
  c1 : v.cell? ⟨X, 1, none⟩ = some (.int .i64 b)
  c2 : v.cell? ⟨X, 2, none⟩ = some (.bool s)
  f0 : v.frozen? ⟨X, 0, none⟩ = false
  f1 : v.frozen? ⟨X, 1, none⟩ = false
  f2 : v.frozen? ⟨X, 2, none⟩ = false
theorem V3.lt {v : World} {X : Nat} {a b : Int} {s : Bool} (h : V3 v X a b s) : X < v.heap.size := World.block_lt_of_cell? v _ h.c0
theorem V3.below {v v' : World} {X : Nat} {a b : Int} {s : Bool} (h : V3 v X a b s) (hb : Below v.heap.size v v') : V3 v' X a b s := by
  obtain ⟨hc, hf⟩ := bcell hb
  have hl := h.lt
  exact ⟨(hc _ _ hl).trans h.c0, (hc _ _ hl).trans h.c1, (hc _ _ hl).trans h.c2, (hf _ _ hl).trans h.f0, (hf _ _ hl).trans h.f1, (hf _ _ hl).trans h.f2⟩
theorem V3.new (w : World) (a b : Int) (s : Bool) (T : TypeId) : V3 (w.alloc (.cells #[.int .i64 a, .int .i64 b, .bool s] T)) w.heap.size a b s := by
  constructor <;> simp [go_sem]
set_option maxRecDepth 100000 in
set_option maxHeartbeats 1600000 in
theorem iVread_any (s : ByteArray) (w : World) (hE : Env w) (hs : s.size ≤ 1048576) : Calls Tryd.prog 17 #[.string s] w fun e w' => ∃ r, e = .returned (retV r) ∧ ReadsV s.data.toList r ∧ Below w.heap.size w w' := by
  have HE := mkHid hE
  clear hE
  cases h : Lib.hasSuffix s.data.toList orL
  · have HC : Hid (∀ v, Calls Tryd.prog 53 #[.string s, .string ⟨#[32, 111, 114, 32, 117, 110, 119, 114, 105, 116, 116, 101, 110]⟩] v fun e w' => e = .returned (.tuple #[.string s, .bool false]) ∧ v = w') := mkHid fun v => by have := cutSuffix_any s v hs; rw [h] at this; exact this
    have HN := mkHid (suf_no h)
    clear h
    go_enter Tryd.func17, Tryd.ntmps17
    go_wp2_with fail
    refine (HC.out _).mono ?_
    rintro e w1 ⟨rfl, rfl⟩
    go_wp2_with fail
    refine (iRead_any s _ (HE.out.below (bl_alloc (Below.refl _ _) _)) hs).mono ?_
    rintro e w2 ⟨r, rfl, hr, hb⟩
    have HR := mkHid (readsV_whole HN.out hr)
    have HB := mkHid (below_step (bl_alloc (Below.refl w.heap.size w) _) hb)
    obtain ⟨x0, x1, x2, x3, x4, x5⟩ := (V3.new w 0 0 false 33).below hb
    have hxl : w.heap.size < w2.heap.size := by have := hb.size; simp at this; omega
    clear hr hb
    unfold retR
    cases r with
    | none =>
      have hB := HB.out
      go_wp2
      exact bodyPost_ret (v := retV none) (by simp [results, Tryd.results17, go_sem, retV, *]) rfl ⟨_, rfl, HR.out, (by repeat (first | with_reducible exact Below.refl _ _ | (with_reducible refine bl_set2 ?_ ?_ _; (first | (simp; done) | (simp [*]; done) | (simp [*] <;> omega))) | with_reducible refine bl_drew ?_ | with_reducible refine bl_alloc ?_ _ | with_reducible refine below_step ?_ (by assumption) | with_reducible assumption))⟩
    | some p =>
      obtain ⟨a, b⟩ := p
      have hB := HB.out
      go_wp2
      exact bodyPost_ret (v := retV (some (a, b, true))) (by simp [results, Tryd.results17, go_sem, retV, *]) rfl ⟨_, rfl, HR.out, (by repeat (first | with_reducible exact Below.refl _ _ | (with_reducible refine bl_set2 ?_ ?_ _; (first | (simp; done) | (simp [*]; done) | (simp [*] <;> omega))) | with_reducible refine bl_drew ?_ | with_reducible refine bl_alloc ?_ _ | with_reducible refine below_step ?_ (by assumption) | with_reducible assumption))⟩
  · have HQ := mkHid (suf_yes h)
    have HC : Hid (∀ v, Calls Tryd.prog 53 #[.string s, .string ⟨#[32, 111, 114, 32, 117, 110, 119, 114, 105, 116, 116, 101, 110]⟩] v fun e w' => e = .returned (.tuple #[.string (s.extract 0 (s.size - 13)), .bool true]) ∧ v = w') := mkHid fun v => by have := cutSuffix_any s v hs; rw [h] at this; exact this
    have t1 : (s.extract 0 (s.size - 13)).data.toList = s.data.toList.take (s.data.toList.length - 13) := by rw [Lib.extract_data, ba_len]; simp
    have hsz : (s.extract 0 (s.size - 13)).size ≤ 1048576 := by simp; omega
    clear h
    generalize s.extract 0 (s.size - 13) = u at *
    rw [← t1] at HQ
    clear t1
    go_enter Tryd.func17, Tryd.ntmps17
    go_wp2_with fail
    refine (HC.out _).mono ?_
    rintro e w1 ⟨rfl, rfl⟩
    go_wp2_with fail
    refine (iRead_any u _ (HE.out.below (bl_alloc (Below.refl _ _) _)) hsz).mono ?_
    rintro e w2 ⟨r, rfl, hr, hb⟩
    have HR := mkHid (readsV_cut HQ.out hr)
    have HB := mkHid (below_step (bl_alloc (Below.refl w.heap.size w) _) hb)
    obtain ⟨x0, x1, x2, x3, x4, x5⟩ := (V3.new w 0 0 false 33).below hb
    have hxl : w.heap.size < w2.heap.size := by have := hb.size; simp at this; omega
    clear hr hb
    unfold retR
    cases r with
    | none =>
      have hB := HB.out
      go_wp2
      exact bodyPost_ret (v := retV none) (by simp [results, Tryd.results17, go_sem, retV, *]) rfl ⟨_, rfl, HR.out, (by repeat (first | with_reducible exact Below.refl _ _ | (with_reducible refine bl_set2 ?_ ?_ _; (first | (simp; done) | (simp [*]; done) | (simp [*] <;> omega))) | with_reducible refine bl_drew ?_ | with_reducible refine bl_alloc ?_ _ | with_reducible refine below_step ?_ (by assumption) | with_reducible assumption))⟩
    | some p =>
      obtain ⟨a, b⟩ := p
      have hB := HB.out
      go_wp2
      exact bodyPost_ret (v := retV (some (a, b, false))) (by simp [results, Tryd.results17, go_sem, retV, *]) rfl ⟨_, rfl, HR.out, (by repeat (first | with_reducible exact Below.refl _ _ | (with_reducible refine bl_set2 ?_ ?_ _; (first | (simp; done) | (simp [*]; done) | (simp [*] <;> omega))) | with_reducible refine bl_drew ?_ | with_reducible refine bl_alloc ?_ _ | with_reducible refine below_step ?_ (by assumption) | with_reducible assumption))⟩
end Go.Proofs.YtiihjoliodemmaaDoor
