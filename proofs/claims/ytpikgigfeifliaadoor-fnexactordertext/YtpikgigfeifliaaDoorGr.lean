/-
  EDGES IN MEMORY: what it means that a slice holds a list of edges; CONTRACTS of szEdge, szEdgeS, szGraph.
-/
import Derived.Test.YtpikgigfeifliaaDoorSame
namespace Go.Proofs.YtpikgigfeifliaaDoor
open Go.RowKit

structure Ed where
  f : Int
  t : Int
  k : Int
  y : Bool
  n : T
def ebulk : List Ed → Nat
  | [] => 0
  | e :: r => bulk e.n + ebulk r
theorem ebulk_take {ks : List Ed} {i : Nat} {t : Ed} (h : ks[i]? = some t) : ebulk (ks.take (i + 1)) = ebulk (ks.take i) + bulk t.n := by
  induction ks generalizing i with
  | nil => simp at h
  | cons x r ih =>
    cases i with
    | zero => simp at h; subst h; simp [ebulk]
    | succ i =>
      simp at h
      have := ih h
      simp only [List.take_succ_cons, ebulk] at this ⊢
      omega
theorem ebulk_mem {ks : List Ed} {t : Ed} (h : t ∈ ks) : bulk t.n ≤ ebulk ks := by
  induction ks with
  | nil => cases h
  | cons x r ih =>
    simp only [ebulk]
    rcases List.mem_cons.1 h with rfl | h
    · omega
    · have := ih h; omega
def EdAt (w : World) (lo : Nat) (e : Ed) (b off : Nat) : Prop :=
  w.cell? ⟨b, off, none⟩ = some (.int .i64 e.f) ∧ w.cell? ⟨b, off + 1, none⟩ = some (.int .i64 e.t) ∧ w.cell? ⟨b, off + 2, none⟩ = some (.int .i64 e.k) ∧ w.cell? ⟨b, off + 3, none⟩ = some (.bool e.y) ∧ Lies w lo e.n b (off + 4)
def LiesG (w : World) (lo : Nat) (es : List Ed) (b off : Nat) : Prop := ∀ i e, es[i]? = some e → EdAt w lo e b (off + i * 8)
def KidsG (w : World) (lo : Nat) (a : Option Addr) (es : List Ed) : Prop := es = [] ∨ ∃ b' o', a = some ⟨b', o', none⟩ ∧ lo ≤ b' ∧ LiesG w lo es b' o'
theorem EdAt.stay {w w' : World} {lo : Nat} (h : ∀ b o, lo ≤ b → b < w.heap.size → w'.cell? ⟨b, o, none⟩ = w.cell? ⟨b, o, none⟩) {e : Ed} {b off : Nat} (hb : ∀ o, off ≤ o → o < off + 8 → w'.cell? ⟨b, o, none⟩ = w.cell? ⟨b, o, none⟩) (hl : EdAt w lo e b off) : EdAt w' lo e b off := by
  obtain ⟨h0, h1, h2, h3, h4⟩ := hl
  exact ⟨(hb _ (by omega) (by omega)).trans h0, (hb _ (by omega) (by omega)).trans h1, (hb _ (by omega) (by omega)).trans h2, (hb _ (by omega) (by omega)).trans h3, Lies.stay h _ _ _ (fun o h5 h6 => hb o (by omega) (by omega)) h4⟩
theorem EdAt.lower {w : World} {lo lo' : Nat} (h : lo' ≤ lo) {e : Ed} {b off : Nat} (hl : EdAt w lo e b off) : EdAt w lo' e b off := by
  obtain ⟨h0, h1, h2, h3, h4⟩ := hl
  exact ⟨h0, h1, h2, h3, Lies.lower h _ _ _ h4⟩
theorem LiesG.stay {w w' : World} {lo : Nat} (h : ∀ b o, lo ≤ b → b < w.heap.size → w'.cell? ⟨b, o, none⟩ = w.cell? ⟨b, o, none⟩) {es : List Ed} {b off : Nat} (hlo : lo ≤ b) (hl : LiesG w lo es b off) : LiesG w' lo es b off :=
  fun i e hi => (hl i e hi).stay h fun o _ _ => h b o hlo (World.block_lt_of_cell? w _ (hl i e hi).1)
theorem LiesG.lower {w : World} {lo lo' : Nat} (h : lo' ≤ lo) {es : List Ed} {b off : Nat} (hl : LiesG w lo es b off) : LiesG w lo' es b off := fun i e hi => (hl i e hi).lower h
theorem KidsG.stay {w w' : World} {lo : Nat} (h : ∀ b o, lo ≤ b → b < w.heap.size → w'.cell? ⟨b, o, none⟩ = w.cell? ⟨b, o, none⟩) {a : Option Addr} {es : List Ed} (hk : KidsG w lo a es) : KidsG w' lo a es := by
  rcases hk with hk | ⟨b', o', e, hlo, hk⟩
  · exact .inl hk
  · exact .inr ⟨b', o', e, hlo, hk.stay h hlo⟩
theorem KidsG.lower {w : World} {lo lo' : Nat} (h : lo' ≤ lo) {a : Option Addr} {es : List Ed} (hk : KidsG w lo a es) : KidsG w lo' a es := by
  rcases hk with hk | ⟨b', o', e, hlo, hk⟩
  · exact .inl hk
  · exact .inr ⟨b', o', e, Nat.le_trans h hlo, hk.lower h⟩
theorem KidsG.below {w w' : World} {lo : Nat} {a : Option Addr} {es : List Ed} (hk : KidsG w lo a es) (hb : Below w.heap.size w w') : KidsG w' lo a es := hk.stay fun b o _ h => hb.cell (p := ⟨b, o, none⟩) h
theorem LiesG.below {w w' : World} {lo b off : Nat} {es : List Ed} (hk : LiesG w lo es b off) (hlo : lo ≤ b) (hb : Below w.heap.size w w') : LiesG w' lo es b off := hk.stay (fun b o _ h => hb.cell (p := ⟨b, o, none⟩) h) hlo
/-- One edge of a list: its cells, and its node's own list. -/
theorem LiesG.at {w : World} {lo b off i : Nat} {es : List Ed} {f t k : Int} {y : Bool} {nk nm : Int} {ns : ByteArray} {kk : List T} (h : LiesG w lo es b off) (hi : es[i]? = some ⟨f, t, k, y, .node nk ns nm kk⟩) :
    ∃ (a : Option Addr) (c : Nat), w.cell? ⟨b, off + i * 8, none⟩ = some (.int .i64 f) ∧ w.cell? ⟨b, off + i * 8 + 1, none⟩ = some (.int .i64 t) ∧ w.cell? ⟨b, off + i * 8 + 2, none⟩ = some (.int .i64 k) ∧ w.cell? ⟨b, off + i * 8 + 3, none⟩ = some (.bool y) ∧
      w.cell? ⟨b, off + i * 8 + 4, none⟩ = some (.int .i64 nk) ∧ w.cell? ⟨b, off + i * 8 + 5, none⟩ = some (.string ns) ∧ w.cell? ⟨b, off + i * 8 + 6, none⟩ = some (.int .i64 nm) ∧ w.cell? ⟨b, off + i * 8 + 7, none⟩ = some (.slice a kk.length c) ∧
      ns.size ≤ maxLen ∧ kk.length ≤ maxLen ∧ Kids w lo a kk := by
  obtain ⟨h0, h1, h2, h3, h4⟩ := h i _ hi
  unfold Lies at h4
  obtain ⟨g0, g1, g2, hs, hn, a, c, g3, hk⟩ := h4
  exact ⟨a, c, h0, h1, h2, h3, g0, g1, g2, g3, hs, hn, hk⟩

set_option maxHeartbeats 400000 in
theorem szEdge_ok (f t k : Int) (y : Bool) (nk : Int) (s : ByteArray) (m : Int) (kk : List T) (a : Option Addr) (c : Nat) (n : Int) (w : World) (hs : s.size ≤ maxLen) (hn : kk.length ≤ maxLen) (hk : Kids w 0 a kk) (h0 : 0 ≤ n) (h1 : n ≤ 1048576) :
    Calls Tryd.prog 22 #[.agg #[.int .i64 f, .int .i64 t, .int .i64 k, .bool y, .int .i64 nk, .string s, .int .i64 m, .slice a kk.length c], .int .i64 n] w fun e w' =>
      (∃ r : Int, e = .returned (.int .i64 r) ∧ (r < 0 ∨ 0 ≤ r ∧ r + bulk (.node nk s m kk) = n)) ∧ Below w.heap.size w w' := by
  have HK := mkHid hk
  clear hk
  have HS := mkHid (And.intro hs hn)
  clear hs hn
  go_enter Tryd.func22, Tryd.ntmps22
  go_wp2_with fail
  refine (szNode_ok (.node nk s m kk) a c _ _ HS.out.1 HS.out.2 (HK.out.below ((Below.refl _ _).alloc (Nat.le_refl _) _)) (by omega) (by omega)).mono ?_
  rintro e w1 ⟨⟨m1, rfl, hm⟩, hb1⟩
  have HB1 := mkHid (below_step ((Below.refl _ _).alloc (Nat.le_refl _) _) hb1)
  have HM := mkHid hm
  clear hb1 hm
  by_cases hneg : m1 < 0
  · go_wp2
    go_ret
    exact ⟨⟨_, rfl, .inl (by decide)⟩, HB1.out⟩
  · go_wp2
    go_ret
    exact ⟨⟨_, rfl, HM.out⟩, HB1.out⟩

set_option maxHeartbeats 400000 in
theorem szEdgeS_of (es : List Ed) (b off c : Nat) (n : Int) (w : World) (hn : es.length ≤ maxLen) (hl : LiesG w 0 es b off) (h0 : 0 ≤ n) (h1 : n ≤ 1048576) :
    Calls Tryd.prog 9 #[.slice (some ⟨b, off, none⟩) es.length c, .int .i64 n] w fun e w' =>
      (∃ r : Int, e = .returned (.int .i64 r) ∧ (r < 0 ∨ 0 ≤ r ∧ r + es.length + ebulk es = n)) ∧ Below w.heap.size w w' := by
  unfold maxLen at hn
  have HL := mkHid hl
  clear hl
  by_cases h : n - (es.length : Int) < 0
  · go_enter Tryd.func9, Tryd.ntmps9
    go_wp2
    go_ret
    exact ⟨⟨_, rfl, .inl (by decide)⟩, Below.refl _ _⟩
  · go_enter Tryd.func9, Tryd.ntmps9
    go_wp2
    go_loopw [1, 5] (fun l i w' => ∃ (k : Nat) (r : Int), k ≤ es.length ∧ i = .int .i64 k ∧ l = .int .i64 r ∧ 0 ≤ r ∧ r + es.length + ebulk (es.take k) = n ∧ Below w.heap.size w w') (fun _ i _ => es.length - (intOf i).toNat)
    case atStart => exact ⟨0, _, Nat.zero_le _, rfl, rfl, by omega, by simp [ebulk], Below.refl _ _⟩
    case round =>
      obtain ⟨k, r, hk, rfl, rfl, hr0, hr1, hbel⟩ := hrel
      have HB := mkHid hbel
      have HR := mkHid hr1
      have hrn : r ≤ 1048576 := by omega
      clear hbel hr1
      by_cases hlt : k < es.length
      · obtain ⟨x, hx⟩ : ∃ x, es[k]? = some x := ⟨_, List.getElem?_eq_getElem hlt⟩
        have HX := mkHid hx
        obtain ⟨xf, xt, xe, xy, ⟨xk, xs, xm, xkk⟩⟩ := x
        obtain ⟨xa, xc, hc0, hc1, hc2, hc3, hc4, hc5, hc6, hc7, hs, hkn, hkids⟩ := (HL.out.below (Nat.zero_le _) HB.out).at hx
        have HC := mkHid (szEdge_ok xf xt xe xy xk xs xm xkk xa xc r wr hs hkn hkids hr0 hrn)
        clear hx hs hkn hkids
        go_wp2_with fail
        refine HC.out.mono ?_
        rintro e w1 ⟨⟨m1, rfl, hm⟩, hb1⟩
        have HB1 := mkHid (HB.out.trans (hb1.mono HB.out.size))
        have HM := mkHid hm
        clear hb1 hm HC
        by_cases hneg : m1 < 0
        · go_wp2
          go_ret
          exact ⟨⟨_, rfl, .inl (by decide)⟩, HB1.out⟩
        · go_wp2
          go_roundw
          case rel =>
            have h2 := HM.out
            have h3 := HR.out
            have h4 := ebulk_take HX.out
            dsimp only at h4
            exact ⟨k + 1, m1, by omega, by go_num, rfl, by omega, by omega, HB1.out⟩
          case measure => simp [intOf]; omega
      · go_wp2
        go_ret
        have h3 := HR.out
        rw [List.take_of_length_le (by omega)] at h3
        exact ⟨⟨_, rfl, .inr ⟨hr0, h3⟩⟩, HB.out⟩

set_option maxHeartbeats 400000 in
theorem szEdgeS_nil (a : Option Addr) (c : Nat) (n : Int) (w : World) (h0 : 0 ≤ n) (h1 : n ≤ 1048576) :
    Calls Tryd.prog 9 #[.slice a 0 c, .int .i64 n] w fun e w' => (∃ r : Int, e = .returned (.int .i64 r) ∧ (r < 0 ∨ 0 ≤ r ∧ r = n)) ∧ Below w.heap.size w w' := by
  go_enter Tryd.func9, Tryd.ntmps9
  go_wp2
  go_loopw [1, 5] (fun l i w' => i = .int .i64 0 ∧ l = .int .i64 n ∧ w' = w) (fun _ i _ => 0)
  case atStart => exact ⟨rfl, by go_num, rfl⟩
  case round =>
    obtain ⟨rfl, rfl, rfl⟩ := hrel
    go_wp2
    go_ret
    exact ⟨⟨_, rfl, .inr ⟨h0, rfl⟩⟩, Below.refl _ _⟩

set_option maxHeartbeats 400000 in
theorem szGraph_ok (p : Int) (es : List Ed) (a : Option Addr) (c : Nat) (n : Int) (w : World) (hn : es.length ≤ maxLen) (hl : KidsG w 0 a es) (h0 : 0 ≤ n) (h1 : n ≤ 1048576) :
    Calls Tryd.prog 4 #[.agg #[.int .i64 p, .slice a es.length c], .int .i64 n] w fun e w' =>
      (∃ r : Int, e = .returned (.int .i64 r) ∧ (r < 0 ∨ 0 ≤ r ∧ r + es.length + ebulk es = n)) ∧ Below w.heap.size w w' := by
  have HK := mkHid hl
  clear hl
  have HS := mkHid hn
  clear hn
  have HC : ∀ w1 : World, KidsG w1 0 a es → Calls Tryd.prog 9 #[.slice a es.length c, .int .i64 n] w1 fun e w' =>
      (∃ r : Int, e = .returned (.int .i64 r) ∧ (r < 0 ∨ 0 ≤ r ∧ r + es.length + ebulk es = n)) ∧ Below w1.heap.size w1 w' := by
    intro w1 h
    rcases h with rfl | ⟨b, o, rfl, _, hl⟩
    · refine (szEdgeS_nil a c n w1 h0 h1).mono ?_
      rintro e w' ⟨⟨r, rfl, h⟩, hb⟩
      exact ⟨⟨r, rfl, by simpa [ebulk] using h⟩, hb⟩
    · exact szEdgeS_of es b o c n w1 HS.out hl h0 h1
  have HC := mkHid HC
  go_enter Tryd.func4, Tryd.ntmps4
  go_wp2_with fail
  refine (HC.out _ (HK.out.below ((Below.refl _ _).alloc (Nat.le_refl _) _))).mono ?_
  rintro e w1 ⟨⟨m1, rfl, hm⟩, hb1⟩
  have HB1 := mkHid (below_step ((Below.refl _ _).alloc (Nat.le_refl _) _) hb1)
  have HM := mkHid hm
  clear hb1 hm
  by_cases hneg : m1 < 0
  · go_wp2
    go_ret
    exact ⟨⟨_, rfl, .inl (by decide)⟩, HB1.out⟩
  · go_wp2
    go_ret
    exact ⟨⟨_, rfl, HM.out⟩, HB1.out⟩
end Go.Proofs.YtpikgigfeifliaaDoor
