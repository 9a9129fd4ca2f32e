/-
  A TREE THAT CAME IN, OPENED; four cells of a struct.
  CONTRACTS of the program's staysSmall and isSmall.
  LAYINGS at this program of some of the library's contracts.
  CONTRACT of the specification's l01Digits.
  CONTRACTS of the law's big, pick, digits.
  WORDS IN MEMORY: what it means that a slice holds a list of words.
-/
import Derived.Test.YtpebfdplapeejaaGreatDoorMCount
import Derived.ProofKit
import Derived.OpenShut
import Derived.ShutString
import Derived.ChangeOld
import Derived.Lib.SmallJoins
import Derived.Shelf.Strings.Builder1
import Derived.Shelf.Small.Strs
import Derived.Shelf.Strings.BuilderF
import Derived.Shelf.Strings.BuilderK
import Derived.Shelf.Strconv.Atoi
import Derived.Shelf.Strconv.Itoa0
import Derived.Shelf.Strconv.Itoa1
import Derived.Shelf.LaysM
import Derived.Shelf.Strconv.Itoa2
import Derived.Shelf.Strconv.Itoa3
import Derived.Shelf.Strconv.Clone
import Derived.Shelf.Strings.Search1
import Derived.Test.YtpebfdplapeejaaGreatDoorProg
import Derived.WalkArith
namespace Go.Proofs.YtpebfdplapeejaaGreatDoor
open Go.ChangeShapes Go.WideShapes Go.ChangeAt Go.RowKit Go.Joins Go.Deep

theorem Tryz.own : ownKnob Tryz.prog.godebug = none := by kernel_rfl
def Four (w : World) (b : Nat) (k : Int) (s : ByteArray) (m : Int) (a : Option Addr) (n c : Nat) : Prop :=
  w.cell? ⟨b, 0, none⟩ = some (.int .i64 k) ∧ w.cell? ⟨b, 1, none⟩ = some (.string s) ∧ w.cell? ⟨b, 2, none⟩ = some (.int .i64 m) ∧ w.cell? ⟨b, 3, none⟩ = some (.slice a n c)
theorem Four.below {w w' : World} {b : Nat} {k : Int} {s : ByteArray} {m : Int} {a : Option Addr} {n c : Nat} (h : Four w b k s m a n c) (hb : Below w.heap.size w w') : Four w' b k s m a n c := by
  obtain ⟨h0, h1, h2, h3⟩ := h
  have hlt := World.block_lt_of_cell? w _ h0
  have hc : ∀ q, w'.cell? ⟨b, q, none⟩ = w.cell? ⟨b, q, none⟩ := fun q => hb.cell (p := ⟨b, q, none⟩) hlt
  exact ⟨(hc _).trans h0, (hc _).trans h1, (hc _).trans h2, (hc _).trans h3⟩
theorem Four.new (w : World) (k : Int) (s : ByteArray) (m : Int) (a : Option Addr) (n c t : Nat) : Four (w.alloc (.cells #[.int .i64 k, .string s, .int .i64 m, .slice a n c] t)) w.heap.size k s m a n c :=
  ⟨by simp [go_sem], by simp [go_sem], by simp [go_sem], by simp [go_sem]⟩

end Go.Proofs.YtpebfdplapeejaaGreatDoor
namespace Go.Proofs.YtpebfdplapeejaaGreatDoor
open Go.RowKit

theorem deps_mem {ks : List T} {t : T} (h : t ∈ ks) : dep t ≤ deps ks := by
  induction ks with
  | nil => cases h
  | cons x r ih =>
    simp only [deps]
    rcases List.mem_cons.1 h with rfl | h
    · omega
    · have := ih h; omega
/-- What stands at the pointer. -/
def At (w : World) (pb : Nat) (l : Nat) : Prop := w.cell? ⟨pb, 0, none⟩ = some (.int .i64 l) ∧ w.frozen? ⟨pb, 0, none⟩ = false

theorem At.alloc {w : World} {pb l : Nat} (h : At w pb l) (ob : Obj) : At (w.alloc ob) pb l :=
  ⟨(((Below.refl w.heap.size w).alloc (Nat.le_refl _) ob).cell (p := ⟨pb, 0, none⟩) (World.block_lt_of_cell? w _ h.1)).trans h.1, (((Below.refl w.heap.size w).alloc (Nat.le_refl _) ob).frozen (p := ⟨pb, 0, none⟩) (World.block_lt_of_cell? w _ h.1)).trans h.2⟩
theorem At.set {w : World} {pb l : Nat} (h : At w pb l) {x : Int} (l' : Nat) (hx : x = l') : At (w.setCell ⟨pb, 0, none⟩ (.int .i64 x)) pb l' := by
  subst hx
  exact ⟨World.cell?_setCell_same' w _ _ (by rw [h.1]; rfl), by simpa using h.2⟩

def StOk (t : T) : Prop := match t with
  | .node k s m kk => ∀ (w0 w : World) (a : Option Addr) (c : Nat) (deep l pb : Nat), kk.length ≤ maxLen → Kids w0 0 a kk → Below w0.heap.size w0 w → w0.heap.size ≤ pb → At w pb l → deep ≤ 1000 → l ≤ 1000 →
    Calls Tryz.prog 35 #[.agg #[.int .i64 k, .string s, .int .i64 m, .slice a kk.length c], .int .i64 deep, .pointer (some ⟨pb, 0, none⟩)] w fun e w' =>
      (∃ l', e = .returned (.bool (decide (dep t ≤ deep ∧ cnt t ≤ l))) ∧ At w' pb l' ∧ (dep t ≤ deep → cnt t ≤ l → l' + cnt t = l)) ∧ Below w0.heap.size w0 w'

theorem dep_pos (t : T) : 1 ≤ dep t := by cases t; simp [dep]
theorem cnt_pos (t : T) : 1 ≤ cnt t := by cases t; simp [cnt]

set_option maxHeartbeats 1600000 in
theorem stays_ok (t : T) : StOk t := by
  refine T.induct ?_ t
  intro k s m kk IH w0 w a c deep l pb hn hk hb hpb hat hd hl
  unfold maxLen at hn
  have HI := mkHid IH
  have HK := mkHid hk
  have HB := mkHid hb
  have hlt : pb < w.heap.size := World.block_lt_of_cell? w _ hat.1
  have hsz := hb.size
  have HP := mkHid hpb
  obtain ⟨p0, f0⟩ := hat
  clear IH hk hb hpb
  have A0 := mkHid (HB.out.alloc hsz (.cells #[.int .i64 k, .string s, .int .i64 m, .slice a kk.length c] 33))
  have HW := mkHid (show At w pb l from ⟨p0, f0⟩)
  have HA := mkHid (HW.out.alloc (.cells #[.int .i64 k, .string s, .int .i64 m, .slice a kk.length c] 33))
  by_cases h0 : deep = 0
  · subst h0
    go_enter Tryz.func35, Tryz.ntmps35
    go_wp2
    go_ret
    have h := dep_pos (.node k s m kk)
    exact ⟨⟨l, by rw [decide_eq_false (by omega)]; rfl, HA.out, fun h1 => by omega⟩, A0.out⟩
  · have hd0 : ((deep : Int) == 0) = false := by simp; omega
    by_cases h1 : l = 0
    · subst h1
      go_enter Tryz.func35, Tryz.ntmps35
      go_wp2
      go_ret
      have h := cnt_pos (.node k s m kk)
      exact ⟨⟨0, by rw [decide_eq_false (by omega)]; rfl, HA.out, fun h1 => by omega⟩, A0.out⟩
    · have hl0 : ((l : Int) == 0) = false := by simp; omega
      have hwl : w0.heap.size ≤ w.heap.size := hsz
      go_enter Tryz.func35, Tryz.ntmps35
      go_wp2
      go_loopw [25] (fun i w' => ∃ (j l' : Nat), j ≤ kk.length ∧ i = .int .i64 j ∧ At w' pb l' ∧ deps (kk.take j) + 1 ≤ deep ∧ l' + cnts (kk.take j) + 1 = l ∧ Below w0.heap.size w0 w') (fun i _ => kk.length - (intOf i).toNat)
      case atStart =>
        exact ⟨0, l - 1, Nat.zero_le _, rfl, (HW.out.set (l - 1) (by omega)).alloc _, by simp [deps]; omega, by simp [cnts]; omega, (HB.out.setCell (p := ⟨pb, 0, none⟩) HP.out _).alloc (by simp; omega) _⟩
      case round =>
        obtain ⟨j, l', hj, rfl, ⟨r0, r1⟩, hdep, hcnt, hbel⟩ := hrel
        have HB1 := mkHid hbel
        have HR := mkHid (And.intro hdep hcnt)
        have hl' : l' ≤ 1000 := by omega
        clear hbel hdep hcnt p0 f0 HA A0 HW
        by_cases hjl : j < kk.length
        · obtain ⟨x, hx⟩ : ∃ x, kk[j]? = some x := ⟨_, List.getElem?_eq_getElem hjl⟩
          have HX := mkHid hx
          rcases HK.out with rfl | ⟨b, o, rfl, _, hll⟩
          · simp at hx
          obtain ⟨xk, xs, xm, xkk⟩ := x
          obtain ⟨xa, xc, hc0, hc1, hc2, hc3, hs, hkn, hkids⟩ := hll.at hx
          have hbl := World.block_lt_of_cell? w0 _ hc0
          obtain ⟨g, _⟩ := bcell (W := w0) (w1 := wr) HB1.out
          have d0 := (g _ _ hbl).trans hc0
          have d1 := (g _ _ hbl).trans hc1
          have d2 := (g _ _ hbl).trans hc2
          have d3 := (g _ _ hbl).trans hc3
          have hsr := HB1.out.size
          have HC := mkHid (HI.out _ (List.mem_of_getElem? hx) w0 (wr.alloc (.cells #[.int .i64 xk, .string xs, .int .i64 xm, .slice xa xkk.length xc] 33)) xa xc (deep - 1) l' pb hkn hkids (HB1.out.alloc hsr _) HP.out
            (At.alloc ⟨r0, r1⟩ _) (by omega) hl')
          have hdd : ((deep - 1 : Nat) : Int) = (deep : Int) - 1 := by omega
          rw [hdd] at HC
          clear hx hs hkn hkids hll hc0 hc1 hc2 hc3 g hdd
          go_wp2_with fail
          refine HC.out.mono ?_
          rintro e w1 ⟨⟨l1, rfl, ⟨z0, z1⟩, hfin⟩, hb1⟩
          have HB2 := mkHid hb1
          have HF := mkHid hfin
          have hdx := deps_take HX.out
          have hcx := cnts_take HX.out
          have HT := mkHid (And.intro hdx hcx)
          clear hb1 hfin HC hdx hcx r0 r1
          by_cases hok : dep (.node xk xs xm xkk) ≤ deep - 1 ∧ cnt (.node xk xs xm xkk) ≤ l'
          · have hb : decide (dep (.node xk xs xm xkk) ≤ deep - 1 ∧ cnt (.node xk xs xm xkk) ≤ l') = true := decide_eq_true hok
            rw [hb]
            have HO := mkHid hok
            clear hb hok
            go_wp2
            go_roundw
            case rel =>
              have h2 := HR.out
              have h3 := HT.out
              have h4 := HO.out
              have h5 := HF.out h4.1 h4.2
              exact ⟨j + 1, l1, by omega, by go_num, ⟨z0, z1⟩, by omega, by omega, HB2.out⟩
            case measure => simp [intOf]; omega
          · have hb : decide (dep (.node xk xs xm xkk) ≤ deep - 1 ∧ cnt (.node xk xs xm xkk) ≤ l') = false := decide_eq_false hok
            rw [hb]
            have HO := mkHid hok
            clear hb hok
            go_wp2
            go_ret
            have h2 := HR.out
            have h3 := HT.out
            have h4 := HO.out
            have h5 := deps_mem (List.mem_of_getElem? HX.out)
            have h6 := cnts_take_le kk (j + 1)
            have h7 : ¬ (dep (.node k s m kk) ≤ deep ∧ cnt (.node k s m kk) ≤ l) := by
              simp only [dep, cnt] at h4 h5 h6 h3 ⊢
              omega
            exact ⟨⟨l1, by rw [decide_eq_false h7]; rfl, ⟨z0, z1⟩, fun g1 g2 => absurd ⟨g1, g2⟩ h7⟩, HB2.out⟩
        · go_wp2
          go_ret
          have h2 := HR.out
          rw [List.take_of_length_le (by omega)] at h2
          refine ⟨⟨l', by rw [decide_eq_true (by simp only [dep, cnt]; omega)]; rfl, ⟨r0, r1⟩, fun _ _ => by simp only [cnt]; omega⟩, HB1.out⟩

set_option maxHeartbeats 400000 in
theorem isSmall_ok (k : Int) (s : ByteArray) (m : Int) (kk : List T) (a : Option Addr) (c : Nat) (w : World) (hn : kk.length ≤ maxLen) (hk : Kids w 0 a kk) :
    Calls Tryz.prog 19 #[.agg #[.int .i64 k, .string s, .int .i64 m, .slice a kk.length c]] w fun e w' => e = .returned (.bool (decide (dep (.node k s m kk) ≤ 24 ∧ cnt (.node k s m kk) ≤ 500))) ∧ Below w.heap.size w w' := by
  have HN := mkHid hn
  have HK := mkHid hk
  clear hn hk
  go_enter Tryz.func19, Tryz.ntmps19
  go_wp2_with fail
  refine (stays_ok (.node k s m kk) w _ a c 24 500 (w.heap.size + 1) HN.out HK.out (((Below.refl _ _).alloc (Nat.le_refl _) _).alloc (by simp) _) (by omega) ⟨by simp [go_sem], by simp [go_sem]⟩ (by omega) (by omega)).mono ?_
  rintro e w1 ⟨⟨l1, rfl, _, _⟩, hb1⟩
  have HB := mkHid hb1
  generalize hq : decide (dep (.node k s m kk) ≤ 24 ∧ cnt (.node k s m kk) ≤ 500) = q
  have HQ := mkHid hq
  clear hb1 hq
  go_wp2
  go_ret
  exact ⟨by rw [HQ.out]; rfl, HB.out⟩
end Go.Proofs.YtpebfdplapeejaaGreatDoor
namespace Go.Proofs.YtpebfdplapeejaaGreatDoor
open Go.Shelf
def Tryz.laysM171_ren : Go.Shelf.Ren := ⟨fun | 171 => 92 | 243 => 98 | 246 => 100 | 283 => 101 | 284 => 102 | 285 => 103 | 286 => 104 | 129 => 106 | 317 => 105 | 318 => 107 | 319 => 108 | 320 => 109 | 337 => 110 | 338 => 111 | n => n, fun | 3 => 3 | 9 => 9 | 2 => 2 | 4 => 4 | 171 => 171 | 0 => 0 | 53 => 155 | 37 => 22 | 5 => 5 | 173 => 174 | 212 => 177 | 51 => 178 | 20 => 20 | 213 => 179 | 46 => 158 | 232 => 182 | 233 => 183 | n => n, fun | 17 => 4 | 18 => 5 | 19 => 6 | n => n⟩
theorem Tryz.laysM171 : Go.Proofs.LaysM.n171 Tryz.prog Tryz.laysM171_ren := {
  mixed := by kernel_rfl
  f129 := Tryz.func106.trans (congrArg some (by kernel_rfl))
  f171 := Tryz.func92.trans (congrArg some (by kernel_rfl))
  f243 := Tryz.func98.trans (congrArg some (by kernel_rfl))
  f246 := Tryz.func100.trans (congrArg some (by kernel_rfl))
  f283 := Tryz.func101.trans (congrArg some (by kernel_rfl))
  f284 := Tryz.func102.trans (congrArg some (by kernel_rfl))
  f285 := Tryz.func103.trans (congrArg some (by kernel_rfl))
  f286 := Tryz.func104.trans (congrArg some (by kernel_rfl))
  f317 := Tryz.func105.trans (congrArg some (by kernel_rfl))
  f318 := Tryz.func107.trans (congrArg some (by kernel_rfl))
  f319 := Tryz.func108.trans (congrArg some (by kernel_rfl))
  f320 := Tryz.func109.trans (congrArg some (by kernel_rfl))
  f337 := Tryz.func110.trans (congrArg some (by kernel_rfl))
  f338 := Tryz.func111.trans (congrArg some (by kernel_rfl))
  t0 := Tryz.underlying0
  a0 := Tryz.isAgg0
  z0 := Tryz.sizeOf0
  v0 := Tryz.zeroValue0
  t2 := Tryz.underlying2
  a2 := Tryz.isAgg2
  z2 := Tryz.sizeOf2
  v2 := Tryz.zeroValue2
  t3 := Tryz.underlying3
  a3 := Tryz.isAgg3
  z3 := Tryz.sizeOf3
  v3 := Tryz.zeroValue3
  t4 := Tryz.underlying4
  a4 := Tryz.isAgg4
  z4 := Tryz.sizeOf4
  v4 := Tryz.zeroValue4
  t5 := Tryz.underlying5
  a5 := Tryz.isAgg5
  z5 := Tryz.sizeOf5
  v5 := Tryz.zeroValue5
  t9 := Tryz.underlying9
  a9 := Tryz.isAgg9
  z9 := Tryz.sizeOf9
  v9 := Tryz.zeroValue9
  t20 := Tryz.underlying20
  a20 := Tryz.isAgg20
  z20 := Tryz.sizeOf20
  v20 := Tryz.zeroValue20
  t37 := Tryz.underlying22
  a37 := Tryz.isAgg22
  z37 := Tryz.sizeOf22
  v37 := Tryz.zeroValue22
  t46 := Tryz.underlying158
  a46 := Tryz.isAgg158
  z46 := Tryz.sizeOf158
  v46 := Tryz.zeroValue158
  t51 := Tryz.underlying178
  a51 := Tryz.isAgg178
  z51 := Tryz.sizeOf178
  v51 := Tryz.zeroValue178
  t53 := Tryz.underlying155
  a53 := Tryz.isAgg155
  z53 := Tryz.sizeOf155
  v53 := Tryz.zeroValue155
  t171 := Tryz.underlying171
  a171 := Tryz.isAgg171
  z171 := Tryz.sizeOf171
  v171 := Tryz.zeroValue171
  t173 := Tryz.underlying174
  a173 := Tryz.isAgg174
  z173 := Tryz.sizeOf174
  v173 := Tryz.zeroValue174
  t212 := Tryz.underlying177
  a212 := Tryz.isAgg177
  z212 := Tryz.sizeOf177
  v212 := Tryz.zeroValue177
  t213 := Tryz.underlying179
  a213 := Tryz.isAgg179
  z213 := Tryz.sizeOf179
  t232 := Tryz.underlying182
  a232 := Tryz.isAgg182
  z232 := Tryz.sizeOf182
  v232 := Tryz.zeroValue182
  t233 := Tryz.underlying183
  a233 := Tryz.isAgg183
  z233 := Tryz.sizeOf183
  v233 := Tryz.zeroValue183
  g17 := by kernel_rfl
  g18 := by kernel_rfl
  g19 := by kernel_rfl
  i0 := by kernel_rfl
  i2 := by kernel_rfl
  i3 := by kernel_rfl
  i4 := by kernel_rfl
  i5 := by kernel_rfl
  i9 := by kernel_rfl
  i20 := by kernel_rfl
  i37 := by kernel_rfl
  i46 := by kernel_rfl
  i51 := by kernel_rfl
  i53 := by kernel_rfl
  i171 := by kernel_rfl
  i173 := by kernel_rfl
  i212 := by kernel_rfl
  i232 := by kernel_rfl
  i233 := by kernel_rfl
  m17 := by kernel_rfl
  m18 := by kernel_rfl
  m19 := by kernel_rfl }
open Go.RowKit Go.Sort Go.Lib in
theorem Tryz.strconv_Itoa (n : Int) (h0 : -9223372036854775808 ≤ n) (h1 : n ≤ 9223372036854775807) (w : World) (htab : Lib.TabIs Tryz.prog w "internal/strconv.uint64pow10" .u64 Lib.pow10Tab) :
    Calls Tryz.prog 92 #[.int .i64 n] w fun e w' => e = .returned (.string ⟨(Lib.itoa n).toArray⟩) ∧ ∃ k os, w' = grow (w.drewN k) os := Any.strconv_Itoa Tryz.laysM171 n h0 h1 w htab
def Tryz.lays137_ren : Go.Shelf.Ren := ⟨fun | 137 => 23 | 217 => 45 | 266 => 61 | n => n, fun | 9 => 9 | 5 => 5 | 3 => 3 | n => n, fun | n => n⟩
theorem Tryz.lays137 : Go.Proofs.Lays.n137 Tryz.prog Tryz.lays137_ren := {
  mixed := by kernel_rfl
  f137 := Tryz.func23.trans (congrArg some (by kernel_rfl))
  f217 := Tryz.func45.trans (congrArg some (by kernel_rfl))
  f266 := Tryz.func61.trans (congrArg some (by kernel_rfl))
  t3 := Tryz.underlying3
  a3 := Tryz.isAgg3
  z3 := Tryz.sizeOf3
  v3 := Tryz.zeroValue3
  t5 := Tryz.underlying5
  a5 := Tryz.isAgg5
  z5 := Tryz.sizeOf5
  v5 := Tryz.zeroValue5
  t9 := Tryz.underlying9
  a9 := Tryz.isAgg9
  z9 := Tryz.sizeOf9
  v9 := Tryz.zeroValue9 }
open Go.RowKit in
theorem Tryz.strings_IndexByte (s : ByteArray) (c : Int) (w : World) :
    Calls Tryz.prog 23 #[.string s, .int .u8 c] w fun e w' => e = .returned (.int .i64 (Lib.indexByte s.data.toList c.toNat.toUInt8)) ∧ w' = w := Any.strings_IndexByte Tryz.lays137 s c w
def Tryz.laysM316_ren : Go.Shelf.Ren := ⟨fun | 316 => 31 | n => n, fun | 9 => 9 | 3 => 3 | 4 => 4 | 37 => 22 | 0 => 0 | 127 => 85 | 5 => 5 | n => n, fun | n => n⟩
theorem Tryz.laysM316 : Go.Proofs.LaysM.n316 Tryz.prog Tryz.laysM316_ren := {
  mixed := by kernel_rfl
  f316 := Tryz.func31.trans (congrArg some (by kernel_rfl))
  t0 := Tryz.underlying0
  a0 := Tryz.isAgg0
  z0 := Tryz.sizeOf0
  v0 := Tryz.zeroValue0
  t3 := Tryz.underlying3
  a3 := Tryz.isAgg3
  z3 := Tryz.sizeOf3
  v3 := Tryz.zeroValue3
  t4 := Tryz.underlying4
  a4 := Tryz.isAgg4
  z4 := Tryz.sizeOf4
  v4 := Tryz.zeroValue4
  t9 := Tryz.underlying9
  a9 := Tryz.isAgg9
  z9 := Tryz.sizeOf9
  v9 := Tryz.zeroValue9
  t37 := Tryz.underlying22
  a37 := Tryz.isAgg22
  z37 := Tryz.sizeOf22
  v37 := Tryz.zeroValue22
  t127 := Tryz.underlying85
  a127 := Tryz.isAgg85
  z127 := Tryz.sizeOf85
  v127 := Tryz.zeroValue85
  t5 := Tryz.underlying5
  a5 := Tryz.isAgg5
  z5 := Tryz.sizeOf5
  v5 := Tryz.zeroValue5
  i0 := by kernel_rfl
  i3 := by kernel_rfl
  i4 := by kernel_rfl
  i5 := by kernel_rfl
  i9 := by kernel_rfl
  i37 := by kernel_rfl
  i127 := by kernel_rfl }
open Go.RowKit in
theorem Tryz.stringslite_Clone (s : ByteArray) (w : World) (hlim : s.size ≤ 281474976710656) :
    Calls Tryz.prog 31 #[.string s] w fun e w' => e = .returned (.string s) ∧ Below w.heap.size w w' := Any.stringslite_Clone Tryz.laysM316 s w hlim
def Tryz.lays172_ren : Go.Shelf.Ren := ⟨fun | 172 => 63 | 244 => 73 | 245 => 74 | 247 => 80 | 279 => 81 | 280 => 82 | 281 => 83 | 282 => 84 | 287 => 90 | 316 => 31 | 171 => 92 | 205 => 91 | 321 => 96 | 322 => 97 | 243 => 98 | 246 => 100 | 283 => 101 | 284 => 102 | 285 => 103 | 286 => 104 | 129 => 106 | 317 => 105 | 318 => 107 | 319 => 108 | 320 => 109 | 337 => 110 | 338 => 111 | n => n, fun | 9 => 9 | 3 => 3 | 75 => 52 | 76 => 104 | 4 => 4 | 5 => 5 | 167 => 127 | 37 => 22 | 0 => 0 | 85 => 128 | 2 => 2 | 168 => 130 | 53 => 155 | 175 => 156 | 46 => 158 | 210 => 160 | 127 => 85 | 145 => 168 | 143 => 166 | 21 => 21 | 171 => 171 | 173 => 174 | 212 => 177 | 51 => 178 | 20 => 20 | 213 => 179 | 232 => 182 | 233 => 183 | 80 => 86 | n => n, fun | 15 => 2 | 16 => 3 | 17 => 4 | 18 => 5 | 19 => 6 | n => n⟩
theorem Tryz.lays172 : Go.Proofs.Lays.n172 Tryz.prog Tryz.lays172_ren := {
  mixed := by kernel_rfl
  f129 := Tryz.func106.trans (congrArg some (by kernel_rfl))
  f171 := Tryz.func92.trans (congrArg some (by kernel_rfl))
  f172 := Tryz.func63.trans (congrArg some (by kernel_rfl))
  f205 := Tryz.func91.trans (congrArg some (by kernel_rfl))
  f243 := Tryz.func98.trans (congrArg some (by kernel_rfl))
  f244 := Tryz.func73.trans (congrArg some (by kernel_rfl))
  f245 := Tryz.func74.trans (congrArg some (by kernel_rfl))
  f246 := Tryz.func100.trans (congrArg some (by kernel_rfl))
  f247 := Tryz.func80.trans (congrArg some (by kernel_rfl))
  f279 := Tryz.func81.trans (congrArg some (by kernel_rfl))
  f280 := Tryz.func82.trans (congrArg some (by kernel_rfl))
  f281 := Tryz.func83.trans (congrArg some (by kernel_rfl))
  f282 := Tryz.func84.trans (congrArg some (by kernel_rfl))
  f283 := Tryz.func101.trans (congrArg some (by kernel_rfl))
  f284 := Tryz.func102.trans (congrArg some (by kernel_rfl))
  f285 := Tryz.func103.trans (congrArg some (by kernel_rfl))
  f286 := Tryz.func104.trans (congrArg some (by kernel_rfl))
  f287 := Tryz.func90.trans (congrArg some (by kernel_rfl))
  f316 := Tryz.func31.trans (congrArg some (by kernel_rfl))
  f317 := Tryz.func105.trans (congrArg some (by kernel_rfl))
  f318 := Tryz.func107.trans (congrArg some (by kernel_rfl))
  f319 := Tryz.func108.trans (congrArg some (by kernel_rfl))
  f320 := Tryz.func109.trans (congrArg some (by kernel_rfl))
  f321 := Tryz.func96.trans (congrArg some (by kernel_rfl))
  f322 := Tryz.func97.trans (congrArg some (by kernel_rfl))
  f337 := Tryz.func110.trans (congrArg some (by kernel_rfl))
  f338 := Tryz.func111.trans (congrArg some (by kernel_rfl))
  t0 := Tryz.underlying0
  a0 := Tryz.isAgg0
  z0 := Tryz.sizeOf0
  v0 := Tryz.zeroValue0
  t2 := Tryz.underlying2
  a2 := Tryz.isAgg2
  z2 := Tryz.sizeOf2
  v2 := Tryz.zeroValue2
  t3 := Tryz.underlying3
  a3 := Tryz.isAgg3
  z3 := Tryz.sizeOf3
  v3 := Tryz.zeroValue3
  t4 := Tryz.underlying4
  a4 := Tryz.isAgg4
  z4 := Tryz.sizeOf4
  v4 := Tryz.zeroValue4
  t5 := Tryz.underlying5
  a5 := Tryz.isAgg5
  z5 := Tryz.sizeOf5
  v5 := Tryz.zeroValue5
  t9 := Tryz.underlying9
  a9 := Tryz.isAgg9
  z9 := Tryz.sizeOf9
  v9 := Tryz.zeroValue9
  t20 := Tryz.underlying20
  a20 := Tryz.isAgg20
  z20 := Tryz.sizeOf20
  v20 := Tryz.zeroValue20
  t21 := Tryz.underlying21
  a21 := Tryz.isAgg21
  z21 := Tryz.sizeOf21
  v21 := Tryz.zeroValue21
  t37 := Tryz.underlying22
  a37 := Tryz.isAgg22
  z37 := Tryz.sizeOf22
  v37 := Tryz.zeroValue22
  t46 := Tryz.underlying158
  a46 := Tryz.isAgg158
  z46 := Tryz.sizeOf158
  v46 := Tryz.zeroValue158
  t51 := Tryz.underlying178
  a51 := Tryz.isAgg178
  z51 := Tryz.sizeOf178
  v51 := Tryz.zeroValue178
  t53 := Tryz.underlying155
  a53 := Tryz.isAgg155
  z53 := Tryz.sizeOf155
  v53 := Tryz.zeroValue155
  t75 := Tryz.underlying52
  a75 := Tryz.isAgg52
  z75 := Tryz.sizeOf52
  v75 := Tryz.zeroValue52
  t76 := Tryz.underlying104
  a76 := Tryz.isAgg104
  z76 := Tryz.sizeOf104
  v76 := Tryz.zeroValue104
  t85 := Tryz.underlying128
  a85 := Tryz.isAgg128
  z85 := Tryz.sizeOf128
  v85 := Tryz.zeroValue128
  t127 := Tryz.underlying85
  a127 := Tryz.isAgg85
  z127 := Tryz.sizeOf85
  v127 := Tryz.zeroValue85
  t143 := Tryz.underlying166
  a143 := Tryz.isAgg166
  z143 := Tryz.sizeOf166
  v143 := Tryz.zeroValue166
  t145 := Tryz.underlying168
  a145 := Tryz.isAgg168
  z145 := Tryz.sizeOf168
  v145 := Tryz.zeroValue168
  t167 := Tryz.underlying127
  a167 := Tryz.isAgg127
  z167 := Tryz.sizeOf127
  v167 := Tryz.zeroValue127
  t168 := Tryz.underlying130
  a168 := Tryz.isAgg130
  z168 := Tryz.sizeOf130
  v168 := Tryz.zeroValue130
  t171 := Tryz.underlying171
  a171 := Tryz.isAgg171
  z171 := Tryz.sizeOf171
  v171 := Tryz.zeroValue171
  t173 := Tryz.underlying174
  a173 := Tryz.isAgg174
  z173 := Tryz.sizeOf174
  v173 := Tryz.zeroValue174
  t175 := Tryz.underlying156
  a175 := Tryz.isAgg156
  z175 := Tryz.sizeOf156
  v175 := Tryz.zeroValue156
  t210 := Tryz.underlying160
  a210 := Tryz.isAgg160
  z210 := Tryz.sizeOf160
  v210 := Tryz.zeroValue160
  t212 := Tryz.underlying177
  a212 := Tryz.isAgg177
  z212 := Tryz.sizeOf177
  v212 := Tryz.zeroValue177
  t213 := Tryz.underlying179
  a213 := Tryz.isAgg179
  z213 := Tryz.sizeOf179
  t232 := Tryz.underlying182
  a232 := Tryz.isAgg182
  z232 := Tryz.sizeOf182
  v232 := Tryz.zeroValue182
  t233 := Tryz.underlying183
  a233 := Tryz.isAgg183
  z233 := Tryz.sizeOf183
  v233 := Tryz.zeroValue183
  g15 := by kernel_rfl
  g16 := by kernel_rfl
  g17 := by kernel_rfl
  g18 := by kernel_rfl
  g19 := by kernel_rfl }
open Go.RowKit in
theorem Tryz.strconv_Atoi (s : ByteArray) (n : Int) (hl : s.size ≤ 18) (h : Lib.atoi s.data.toList = some n) (w : World) :
    Calls Tryz.prog 63 #[.string s] w fun e w' => e = .returned (.tuple #[.int .i64 n, .nilIface]) ∧ ∃ t, w' = Lib.bytesWorld w 5 t := Any.strconv_Atoi Tryz.lays172 s n hl h w
end Go.Proofs.YtpebfdplapeejaaGreatDoor
namespace Go.Proofs.YtpebfdplapeejaaGreatDoor
open Go.RowKit

def dec (n : Nat) : ByteArray := ⟨(Lib.decDigits n).toArray⟩
theorem dec_small {n : Nat} (h : n < 10) : dec n = ⟨#[UInt8.ofNat (48 + n)]⟩ := by
  unfold dec
  rw [Lib.decDigits, dif_pos h]
theorem dec_more {n : Nat} (h : ¬ n < 10) : dec n = dec (n / 10) ++ ⟨#[UInt8.ofNat (48 + n % 10)]⟩ := by
  unfold dec
  conv => lhs; rw [Lib.decDigits, dif_neg h]
  apply ByteArray.ext
  simp

theorem dec_size (n : Nat) : (dec n).size ≤ n + 1 := by
  induction n using Nat.strongRecOn with
  | ind n ih =>
    by_cases h : n < 10
    · rw [dec_small h]
      exact Nat.succ_le_succ (Nat.zero_le _)
    · rw [dec_more h, ByteArray.size_append]
      have := ih (n / 10) (by omega)
      have e : (ByteArray.mk #[UInt8.ofNat (48 + n % 10)]).size = 1 := rfl
      omega

end Go.Proofs.YtpebfdplapeejaaGreatDoor
namespace Go.Proofs.YtpebfdplapeejaaGreatDoor
open Go.RowKit
open Pl

/-- Bytes that came in. -/
def Bytes (w : World) (cb : Nat) (a : Option Addr) (n : Nat) : Prop := n = 0 ∨ ∃ b off, a = some ⟨b, off, none⟩ ∧ b < cb ∧ ∀ i, i < n → ∃ z : Int, 0 ≤ z ∧ z ≤ 255 ∧ w.cell? ⟨b, off + i, none⟩ = some (.int .u8 z)
theorem ret_bool' {a b : Bool} (h : a = b) : Ending.returned (.bool a) = .returned (.bool b) := by rw [h]
theorem big_any (n cap : Nat) (a : Option Addr) (w : World) (hn : n ≤ maxLen) : Calls Tryz.prog 4 #[.slice a n cap] w fun e w' => e = .returned (.bool (decide (1048576 < n))) ∧ w = w' := by
  unfold maxLen at hn
  by_cases h : 1048576 < n
  · have h' : (1048576 : Int) < (n : Int) := by omega
    go_enter Tryz.func4, Tryz.ntmps4
    go_wp2
    go_ret
    exact ⟨ret_bool' (by first | rfl | simp [h]), rfl⟩
  · have h' : ¬ (1048576 : Int) < (n : Int) := by omega
    go_enter Tryz.func4, Tryz.ntmps4
    go_wp2
    go_ret
    exact ⟨ret_bool' (by first | rfl | simp [h]), rfl⟩
/-- One byte of a digit, as a string. -/
theorem conv_one (d b : Nat) (w : World) (hd : d < 10) (hc : w.cell? ⟨b, 0, none⟩ = some (.int .u8 (48 + (d : Int)))) :
    Sem.run Tryz.prog (convert 22 9 (.slice (some ⟨b, 0, none⟩) 1 1)) w = .ok (.string ⟨#[UInt8.ofNat (48 + d)]⟩) w := by
  refine run_convert_bytes_back (P := Tryz.prog) w 22 9 5 ⟨b, 0, none⟩ 1 [UInt8.ofNat (48 + d)] Tryz.underlying22 Tryz.underlying5 Tryz.underlying9 (fun i hi => ?_)
  have e : i = 0 := by simpa using hi
  subst e
  rw [WideShapes.add_plain]
  have h : (UInt8.ofNat (48 + d)).toNat = 48 + d := by
    rw [UInt8.toNat_ofNat']
    omega
  simp only [List.getElem_cons_zero, h]
  rw [hc]
  rfl

set_option maxRecDepth 100000 in
set_option maxHeartbeats 1600000 in
theorem ldigits_any : ∀ (n : Nat) (w : World), n ≤ 1000000 → Calls Tryz.prog 7 #[.int .i64 n] w fun e w' => e = .returned (.string (dec n)) ∧ Below w.heap.size w w' := by
  intro n
  induction n using Nat.strongRecOn with
  | ind n ih =>
    intro w hn
    have h0 : (0 : Int) ≤ (n : Int) := by omega
    have g9 : decide ((n : Int) < -9) = false := by simp <;> omega
    have g0 : decide ((n : Int) < 0) = false := by simp
    by_cases h : n < 10
    · clear ih
      have hconv := conv_one n w.heap.size (w.alloc (.cells #[.int .u8 (48 + (n : Int))] 5)) h (by simp [go_sem])
      rw [dec_small h]
      generalize UInt8.ofNat (48 + n) = x at hconv ⊢
      go_enter Tryz.func7, Tryz.ntmps7
      go_wp2
      go_ret
      exact ⟨rfl, (Below.refl _ _).alloc (Nat.le_refl _) _⟩
    · have h1 : (10 : Int) ≤ (n : Int) := by omega
      have HD := mkHid (dec_more h)
      obtain ⟨q, hq⟩ : ∃ q, q = n / 10 := ⟨_, rfl⟩
      obtain ⟨r, hr⟩ : ∃ r, r = n % 10 := ⟨_, rfl⟩
      rw [← hq, ← hr] at HD
      have hq' : Int.tdiv (n : Int) 10 = (q : Int) := by rw [Int.tdiv_eq_ediv_of_nonneg h0]; omega
      have hr' : Int.tmod (n : Int) 10 = (r : Int) := by rw [Int.tmod_eq_emod_of_nonneg h0]; omega
      have hr9 : (r : Int) < 10 := by omega
      have hr0 : (0 : Int) ≤ (r : Int) := by omega
      have HI := mkHid (fun W => ih q (by omega) W (by omega))
      have hconv := fun b W => conv_one r b W (by omega)
      generalize UInt8.ofNat (48 + r) = x at hconv HD
      have wq : IntKind.i64.wrap (q : Int) = (q : Int) := by rw [IntKind.wrap_i64]; omega
      have wr : IntKind.i64.wrap (r : Int) = (r : Int) := by rw [IntKind.wrap_i64]; omega
      have ws : IntKind.i64.wrap (48 + (r : Int)) = 48 + (r : Int) := by rw [IntKind.wrap_i64]; omega
      have wu : IntKind.u8.wrap (48 + (r : Int)) = 48 + (r : Int) := by rw [IntKind.wrap_u8]; omega
      have hds := dec_size q
      have hqs : (dec q).size ≤ 1000001 := by omega
      clear ih hq hr hds
      go_enter Tryz.func7, Tryz.ntmps7
      go_wp2_with fail
      go_region_with (first | (go_at_call 7; refine (HI.out _).mono ?_; rintro e w1 ⟨rfl, hb1⟩; obtain ⟨hc, hf⟩ := bcell hb1))
      all_goals clear hc hf
      all_goals go_wp2
      all_goals go_ret
      all_goals refine ⟨by rw [HD.out]; rfl, ?_⟩
      all_goals first | exact (below_step (Below.refl w.heap.size w).drew hb1).alloc (hb1.size) _ | exact below_step (((Below.refl w.heap.size w).alloc (Nat.le_refl _) _).drew) hb1
end Go.Proofs.YtpebfdplapeejaaGreatDoor
namespace Go.Proofs.YtpebfdplapeejaaGreatDoor
open Go.RowKit
open Pl

/-- A word as data. -/
structure W3 where
  k : Int
  s : ByteArray
  a : Int

/-- The words lie from offset off on in block b. -/
def LiesW (w : World) (b off : Nat) (ws : List W3) : Prop := ∀ i x, ws[i]? = some x →
  w.cell? ⟨b, off + i * 3, none⟩ = some (.int .i64 x.k) ∧ w.cell? ⟨b, off + i * 3 + 1, none⟩ = some (.string x.s) ∧ w.cell? ⟨b, off + i * 3 + 2, none⟩ = some (.int .i64 x.a)
theorem LiesW.below {w w' : World} {b off : Nat} {ws : List W3} (h : LiesW w b off ws) (hb : Below w.heap.size w w') : LiesW w' b off ws := fun i x hx => by
  obtain ⟨h0, h1, h2⟩ := h i x hx
  have hlt := World.block_lt_of_cell? w _ h0
  exact ⟨(hb.cell (p := ⟨b, off + i * 3, none⟩) hlt).trans h0, (hb.cell (p := ⟨b, off + i * 3 + 1, none⟩) hlt).trans h1, (hb.cell (p := ⟨b, off + i * 3 + 2, none⟩) hlt).trans h2⟩
/-- The cells of a list of words. -/
def flat (ws : List W3) : List Value := ws.flatMap fun x => [.int .i64 x.k, .string x.s, .int .i64 x.a]
theorem flat_length (ws : List W3) : (flat ws).length = ws.length * 3 := by
  induction ws with
  | nil => rfl
  | cons x ws ih =>
    have : flat (x :: ws) = [.int .i64 x.k, .string x.s, .int .i64 x.a] ++ flat ws := rfl
    rw [this]
    simp only [List.length_append, List.length_cons, List.length_nil, ih]
    omega
theorem flat_append (a b : List W3) : flat (a ++ b) = flat a ++ flat b := by simp [flat]
theorem flat_get {ws : List W3} {k : Nat} {x : W3} (hx : ws[k]? = some x) : (flat ws)[k * 3]? = some (.int .i64 x.k) ∧ (flat ws)[k * 3 + 1]? = some (.string x.s) ∧ (flat ws)[k * 3 + 2]? = some (.int .i64 x.a) := by
  obtain ⟨hk, hx'⟩ := List.getElem?_eq_some_iff.1 hx
  have e : ws = ws.take k ++ x :: ws.drop (k + 1) := by
    rw [← hx', ← List.drop_eq_getElem_cons hk, List.take_append_drop]
  have hl : (flat (ws.take k)).length = k * 3 := by rw [flat_length]; simp; omega
  have e2 : flat ws = flat (ws.take k) ++ (.int .i64 x.k :: .string x.s :: .int .i64 x.a :: flat (ws.drop (k + 1))) := by
    conv => lhs; rw [e]
    rw [flat_append]; rfl
  rw [e2]
  refine ⟨?_, ?_, ?_⟩
  · rw [List.getElem?_append_right (by omega), hl]; simp
  · rw [List.getElem?_append_right (by omega), hl, show k * 3 + 1 - k * 3 = 1 by omega]; rfl
  · rw [List.getElem?_append_right (by omega), hl, show k * 3 + 2 - k * 3 = 2 by omega]; rfl
/-- A row of our own holds the words. -/
theorem lies_of_row {w : World} {base e g cap : Nat} {ws : List W3} (h : w.ownsRow base e 3 (.slice (some ⟨g, 0, none⟩) ws.length cap) ws.length (flat ws)) : LiesW w g 0 ws := fun i x hx => by
  obtain ⟨hi, _⟩ := List.getElem?_eq_some_iff.1 hx
  obtain ⟨f0, f1, f2⟩ := flat_get hx
  rw [Nat.zero_add]
  exact ⟨(h.cellAt (i * 3) (by omega)).trans f0, (h.cellAt (i * 3 + 1) (by omega)).trans f1, (h.cellAt (i * 3 + 2) (by omega)).trans f2⟩

theorem Tryz.info45 : (Tryz.prog.info? 45).map (fun i => (i.zero, i.size, i.bytes)) = some (some (.agg #[.int .i64 0, .string ByteArray.empty, .int .i64 0]), 3, 32) := by kernel_rfl
theorem ret_str {a b : ByteArray} (h : a = b) : Ending.returned (.string a) = .returned (.string b) := by rw [h]
end Go.Proofs.YtpebfdplapeejaaGreatDoor
