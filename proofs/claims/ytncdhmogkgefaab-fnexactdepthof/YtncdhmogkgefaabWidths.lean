/-
  CONTRACT of the program's widths.
-/
import Derived.Test.YtncdhmogkgefaabLevel
namespace Go.Proofs.Ytncdhmogkgefaab
open Go.RowKit

def lenV : Value → Nat
  | .slice _ n _ => n
  | _ => 0
def ints (ws : List Nat) : List Value := ws.map fun (x : Nat) => Value.int .i64 x
theorem lenV_row {w : World} {base e size n : Nat} {v : Value} {xs : List Value} (h : w.ownsRow base e size v n xs) : lenV v = n := by
  rcases h.2 with ⟨rfl, h0⟩ | ⟨g, cap, cur, rfl, _⟩
  · rw [h0]; rfl
  · rfl
theorem Level.grown {w w1 w2 : World} {a : Option Addr} {cur : List T} {row : Option Nat} (h : Level w w1 a cur) (hg : w1.grownBy w2 row) (hd : ∀ g, row = some g → ∀ b o, a = some ⟨b, o, none⟩ → b ≠ g) : Level w w2 a cur := by
  rcases h with h | ⟨b, o, e, h⟩
  · exact .inl h
  · refine .inr ⟨b, o, e, fun j k s m kk hj => ?_⟩
    obtain ⟨a', c, h0, h1, h2, h3, h4⟩ := h j k s m kk hj
    have hlt := World.block_lt_of_cell? w1 _ h0
    have hc : ∀ q, w2.cell? ⟨b, q, none⟩ = w1.cell? ⟨b, q, none⟩ := fun q => World.cell?_of_block (w := w1) (hg.block b hlt (fun e' => hd b e'.symm b o e rfl))
    exact ⟨a', c, (hc _).trans h0, (hc _).trans h1, (hc _).trans h2, (hc _).trans h3, h4⟩
theorem Try.info3 : (Try.prog.info? 3).map (fun i => (i.zero, i.size, i.bytes)) = some (some (.int .i64 0), 1, 8) := by kernel_rfl

/-- What stands between two rounds: the widths so far, and the level. -/
def Lap (w : World) (t : T) (l v : Value) (w' : World) (ws : List Nat) (cur : List T) (a : Option Addr) (c : Nat) : Prop :=
  v = .slice a cur.length c ∧ Level w w' a cur ∧ w'.ownsRow w.heap.size 3 1 l ws.length (ints ws) ∧ ws.sum + cnts cur = cnt t ∧ ws.length + deps cur = dep t ∧
    (∀ g, l.ownBlock = some g → ∀ b o, a = some ⟨b, o, none⟩ → b ≠ g) ∧ Below w.heap.size w w'

set_option maxRecDepth 100000 in
set_option maxHeartbeats 1600000 in
theorem widths_ok (k : Int) (s : ByteArray) (m : Int) (kk : List T) (a : Option Addr) (c : Nat) (w : World) (hs : s.size ≤ maxLen) (hn : kk.length ≤ maxLen) (hc : cnt (.node k s m kk) ≤ 1048577) (hk : Kids w 0 a kk) :
    Calls Try.prog 14 #[.agg #[.int .i64 k, .string s, .int .i64 m, .slice a kk.length c]] w fun e w' =>
      (∃ (v : Value) (ws : List Nat), e = .returned v ∧ w'.ownsRow w.heap.size 3 1 v ws.length (ints ws) ∧ ws.sum = cnt (.node k s m kk) ∧ ws.length = dep (.node k s m kk)) ∧ Below w.heap.size w w' := by
  obtain ⟨i3, hi3, hz3⟩ := Option.map_eq_some_iff.1 Try.info3
  simp only [Prod.mk.injEq] at hz3
  have I3 := mkHid (And.intro hi3 hz3)
  obtain ⟨i29, hi29, hz29⟩ := Option.map_eq_some_iff.1 Try.info29
  simp only [Prod.mk.injEq] at hz29
  have I29 := mkHid (And.intro hi29 hz29)
  clear hi3 hz3 hi29 hz29
  have HS := mkHid (And.intro hs hn)
  have HK := mkHid hk
  have HD := mkHid (Nat.le_trans (dep_le (.node k s m kk)) hc)
  have HC := mkHid hc
  clear hs hn hk hc
  generalize ht : T.node k s m kk = t at HC HD ⊢
  have HT := mkHid ht
  go_enter Try.func14, Try.ntmps14
  go_wp2
  go_loopw [3, 4] (fun l v w' => ∃ (ws : List Nat) (cur : List T) (a : Option Addr) (c : Nat), Lap w t l v w' ws cur a c) (fun l _ _ => dep t - lenV l)
  case atStart =>
    refine ⟨[], [t], some ⟨w.heap.size + 1, 0, none⟩, 1, rfl, ?_, ⟨rfl, .inl ⟨rfl, rfl⟩⟩, by simp [cnts], by simp [deps], fun g hg => (by cases hg), ((Below.refl _ _).alloc (Nat.le_refl _) _).alloc (by simp) _⟩
    refine .inr ⟨_, _, rfl, fun j k' s' m' q hj => ?_⟩
    match j with
    | 0 =>
      rw [← HT.out] at hj
      simp at hj
      obtain ⟨rfl, rfl, rfl, rfl⟩ := hj
      exact ⟨a, c, by simp [go_sem], by simp [go_sem], by simp [go_sem], by simp [go_sem], HS.out.1, HS.out.2, HK.out⟩
    | j + 1 => simp at hj
  case round =>
    obtain ⟨ws, cur, a1, c1, rfl, h1, h2, h3, h4, h5, h6⟩ := hrel
    have H1 := mkHid h1
    have H2 := mkHid h2
    have H3 := mkHid (And.intro h3 h4)
    have H5 := mkHid h5
    have H6 := mkHid h6
    clear h1 h2 h3 h4 h5 h6 HS HK
    by_cases hcur : cur.length = 0
    · have e : cur = [] := List.length_eq_zero_iff.1 hcur
      subst e
      go_wp2
      go_ret
      have h7 := H3.out
      simp [cnts, deps] at h7
      exact ⟨⟨_, ws, rfl, H2.out, h7.1, h7.2⟩, H6.out⟩
    · have hpos : 0 < cur.length := by omega
      have hcl : cur.length ≤ 1048577 := by have := H3.out.1; have := HC.out; have := length_le_cnts cur; omega
      have hwl : ws.length ≤ 1048577 := by have := H3.out.2; have := HD.out; omega
      have hsw := H6.out.size
      go_wp2_with (at_builtin; refine wpList_append_lies _ rfl _ _ 35 rfl w.heap.size 3 i3 (.int .i64 0) 1 8 Try.underlying35 I3.out.1 I3.out.2.1 I3.out.2.2.1 I3.out.2.2.2 rfl (by decide) _ _ _ rfl (H2.out.alloc _) ⟨wr.heap.size, 0, none⟩ 1 1 [.int .i64 cur.length] rfl rfl ?c1 ?c2 (by decide) ?c3 ?c4 ?c5 (wr.heap.size + 1) (by simp) ?_)
      case c1 =>
        intro j u hu
        match j with
        | 0 => simp at hu; subst hu; simp [go_sem, Addr.add]
        | j + 1 => simp at hu
      case c2 => intro u hu; simp at hu; subst hu; rfl
      case c3 => unfold maxLen; omega
      case c4 => omega
      case c5 => simp; omega
      intro g cap w4 hown' hgrow hg _
      have G1 := mkHid hown'
      have G2 : Hid (Below w.heap.size w w4) := mkHid (Below.grown ((H6.out.alloc (Nat.le_trans hsw (Nat.le_refl _)) _)) hgrow (by simp; omega) (fun q hq => by
        rcases H2.out.2 with ⟨rfl, _⟩ | ⟨g0, cap0, cur0, rfl, hb0, _⟩
        · cases hq
        · cases hq; exact hb0))
      have G3 : Hid (Level w w4 a1 cur) := mkHid ((H1.out.below ((Below.refl _ _).alloc (Nat.le_refl _) _)).grown hgrow H5.out)
      have hgs : w.heap.size ≤ w4.heap.size := G2.out.size
      have G4 : Hid (g < w4.heap.size) := mkHid (by assumption)
      clear hown' hgrow hg
      go_wp2
      go_loopw [5, 20] (fun bv i w' => ∃ (j : Nat) (xs : List Value), j ≤ cur.length ∧ i = .int .i64 j ∧ w'.ownsRow w4.heap.size 29 4 bv (step (cur.take j)).length xs ∧ Flat w (step (cur.take j)) xs ∧ Below w4.heap.size w4 w') (fun _ i _ => cur.length - (intOf i).toNat)
      case atStart => exact ⟨0, [], Nat.zero_le _, rfl, ⟨rfl, .inl ⟨rfl, rfl⟩⟩, Flat.nil w, Below.refl _ _⟩
      case round =>
        obtain ⟨j, xs, hj, rfl, k1, k2, k3⟩ := hrel
        have K1 := mkHid k1
        have K2 := mkHid k2
        have K3 := mkHid k3
        clear k1 k2 k3
        by_cases hlt : j < cur.length
        · obtain ⟨x, hx⟩ : ∃ x, cur[j]? = some x := ⟨_, List.getElem?_eq_getElem hlt⟩
          have HX := mkHid hx
          obtain ⟨xk, xs', xm, xkk⟩ := x
          rcases G3.out.below K3.out with h0 | ⟨b, o, rfl, hcells⟩
          · rw [h0] at hpos; simp at hpos
          obtain ⟨xa, xc, hc0, hc1, hc2, hc3, hs, hkn, hkids⟩ := hcells j xk xs' xm xkk hx
          have K4 := mkHid hkids
          clear hx hs hkn hkids hcells
          have hsk := K3.out.size
          have HSZ : Hid ((step (cur.take j)).length + xkk.length ≤ 1048577) := mkHid (by
            have h1 := step_take HX.out
            have h2 := step_take_le cur (j + 1)
            have h3 := H3.out.1
            have h4 := HC.out
            rw [h1, List.length_append] at h2
            simp only [kidsOf] at h2
            omega)
          have hul : ∃ ba bc, u5 = .slice ba (step (cur.take j)).length bc ∧ (step (cur.take j)).length ≤ bc := by
            rcases K1.out.2 with ⟨rfl, h0⟩ | ⟨g0, cap0, cur0, rfl, _, _, h0, _⟩
            · exact ⟨none, 0, by rw [h0], by omega⟩
            · exact ⟨_, _, rfl, h0⟩
          by_cases hk0 : xkk.length = 0
          · have e : xkk = [] := List.length_eq_zero_iff.1 hk0
            subst e
            obtain ⟨ba, bc, rfl, hbc⟩ := hul
            go_wp2_with (at_builtin; refine wpList_append_zero _ rfl _ _ 27 rfl 29 i29 Try.underlying27 I29.out.1 ba _ bc hbc rfl xa xc rfl ?_)
            go_wp2
            go_roundw
            case rel =>
              refine ⟨j + 1, xs, by omega, by go_num, ?_, ?_, K3.out.alloc (by omega) _⟩
              · rw [step_take HX.out]
                simp only [kidsOf, List.append_nil]
                exact K1.out.alloc _
              · rw [step_take HX.out]
                simp only [kidsOf, List.append_nil]
                exact K2.out
            case measure => simp [intOf]; omega
          · rcases K4.out with h0 | ⟨bk, ok, rfl, _, hl⟩
            · rw [h0] at hk0; simp at hk0
            obtain ⟨news, n1, n2, n3⟩ := hl.flat
            have N1 : Hid (∀ q u, news[q]? = some u → wr.cell? ⟨bk, ok + q, none⟩ = some u) := mkHid fun q u hu => by
              have hcq := n1 q u hu
              exact ((G2.out.trans (K3.out.mono hgs)).cell (p := ⟨bk, ok + q, none⟩) (World.block_lt_of_cell? w _ hcq)).trans hcq
            have N2 := mkHid n2
            have N3 := mkHid n3
            clear hl n1 n2 n3 hul
            have hk1 : 0 < xkk.length := by omega
            go_wp2_with (at_builtin; refine wpList_append_lies _ rfl _ _ 27 rfl w4.heap.size 29 i29 (.agg #[.int .i64 0, .string ByteArray.empty, .int .i64 0, .slice none 0 0]) 4 56 Try.underlying27 I29.out.1 I29.out.2.1 I29.out.2.2.1 I29.out.2.2.2 rfl (by decide) _ _ _ rfl (K1.out.alloc _) ⟨bk, ok, none⟩ xkk.length xc news rfl N3.out.1 ?d1 N2.out hk1 ?d3 ?d4 ?d5 (wr.heap.size + 1) (by simp) ?_)
            case d1 =>
              intro q u hu
              have hcq := N1.out q u hu
              rw [show (⟨bk, ok, none⟩ : Addr).add q = ⟨bk, ok + q, none⟩ from by simp [Addr.add]]
              exact (((Below.refl wr.heap.size wr).alloc (Nat.le_refl _) _).cell (p := ⟨bk, ok + q, none⟩) (World.block_lt_of_cell? wr _ hcq)).trans hcq
            case d3 => have := HSZ.out; unfold maxLen; omega
            case d4 => have := HSZ.out; omega
            case d5 => simp; omega
            intro g2 cap2 w5 hown2 hgrow2 _ _
            have M1 := mkHid hown2
            have M2 : Hid (Below w4.heap.size w4 w5) := mkHid (Below.grown (K3.out.alloc (by omega) _) hgrow2 (by simp; omega) (fun q hq => by
              rcases K1.out.2 with ⟨rfl, _⟩ | ⟨g0, cap0, cur0, rfl, hb0, _⟩
              · cases hq
              · cases hq; exact hb0))
            clear hown2 hgrow2
            go_wp2
            go_roundw
            case rel =>
              refine ⟨j + 1, xs ++ news, by omega, by go_num, ?_, ?_, M2.out⟩
              · rw [step_take HX.out, List.length_append]
                exact M1.out
              · rw [step_take HX.out]
                exact K2.out.append N3.out
            case measure => simp [intOf]; omega
        · have hje : cur.take j = cur := List.take_of_length_le (by omega)
          rw [hje] at K1 K2
          obtain ⟨a2, c2, rfl, _, hlev⟩ := Level.of_row K1.out K2.out
          have J1 := mkHid hlev
          clear hlev
          go_wp2
          go_roundw
          case rel =>
            refine ⟨ws ++ [cur.length], step cur, a2, c2, rfl, J1.out, ?_, ?_, ?_, ?_, G2.out.trans (K3.out.mono hgs)⟩
            · have := owns_below G1.out K3.out
              simpa [ints] using this
            · have h7 := H3.out.1
              have h8 := cnts_step cur
              simp
              omega
            · have h7 := H3.out.2
              have h8 := deps_step (l := cur) (fun e => by rw [e] at hpos; simp at hpos)
              simp
              omega
            · intro q hq b o hb
              have hq' : g = q := by simpa [Value.ownBlock] using hq
              subst hq'
              rcases K1.out.2 with ⟨h0, _⟩ | ⟨g0, cap0, cur0, h0, hb0, _⟩
              · simp at h0; obtain ⟨rfl, _⟩ := h0; cases hb
              · simp at h0
                obtain ⟨rfl, _⟩ := h0
                simp at hb
                obtain ⟨rfl, _⟩ := hb
                have := G4.out
                omega
          case measure =>
            have h7 := H3.out.2
            have h8 := deps_step (l := cur) (fun e => by rw [e] at hpos; simp at hpos)
            have h9 := lenV_row H2.out
            show dep t - (ws.length + 1) < dep t - lenV u3
            rw [h9]
            omega
end Go.Proofs.Ytncdhmogkgefaab
