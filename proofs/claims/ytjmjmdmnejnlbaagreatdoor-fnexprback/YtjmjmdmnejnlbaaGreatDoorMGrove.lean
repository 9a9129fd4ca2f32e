/-
  LAYINGS at this program of some of the library's contracts.
  WORDS IN MEMORY: what it means that a slice holds a list of words.
  PLAIN FACTS on the words of a text: where blanks end, where a word ends, the words one by one.
  THE READING OF A PROGRAM'S WORDS, as plain functions: from a word on, what is read and where it ends, or the word with which it cannot go on.
  PLAIN FACTS on the reading of words: it goes on.
  TREES THAT OWN THEIR MEMORY: a tree with the places of its lists; that each list lies in a block of its own.
-/
import Derived.Shelf.Strings.Builder1
import Derived.Shelf.Small.Strs
import Derived.Shelf.Strings.BuilderF
import Derived.Shelf.Strings.BuilderK
import Derived.Shelf.Strconv.Atoi
import Derived.Shelf.Strconv.Itoa0
import Derived.Shelf.Strconv.Itoa1
import Derived.Shelf.LaysM
import Derived.Shelf.Strconv.Itoa2
import Derived.Shelf.Strconv.Itoa3
import Derived.Shelf.Strconv.Clone
import Derived.Shelf.Strings.Search1
import Derived.Test.YtjmjmdmnejnlbaaGreatDoorProg
import Derived.Test.YtjmjmdmnejnlbaaGreatDoorMCopyb
namespace Go.Proofs.YtjmjmdmnejnlbaaGreatDoor
open Go.Shelf
def Tryz.laysM171_ren : Go.Shelf.Ren := ⟨fun | 171 => 49 | 243 => 79 | 246 => 106 | 283 => 117 | 284 => 118 | 285 => 119 | 286 => 120 | 129 => 129 | 317 => 128 | 318 => 130 | 319 => 131 | 320 => 132 | 337 => 139 | 338 => 140 | n => n, fun | 3 => 3 | 9 => 9 | 2 => 2 | 4 => 4 | 171 => 131 | 0 => 0 | 53 => 132 | 37 => 22 | 5 => 5 | 173 => 135 | 212 => 139 | 51 => 140 | 20 => 20 | 213 => 141 | 46 => 142 | 232 => 156 | 233 => 157 | n => n, fun | 17 => 0 | 18 => 4 | 19 => 5 | n => n⟩
theorem Tryz.laysM171 : Go.Proofs.LaysM.n171 Tryz.prog Tryz.laysM171_ren := {
 mixed := by kernel_rfl
 f129 := Tryz.func129.trans (congrArg some (by kernel_rfl))
 f171 := Tryz.func49.trans (congrArg some (by kernel_rfl))
 f243 := Tryz.func79.trans (congrArg some (by kernel_rfl))
 f246 := Tryz.func106.trans (congrArg some (by kernel_rfl))
 f283 := Tryz.func117.trans (congrArg some (by kernel_rfl))
 f284 := Tryz.func118.trans (congrArg some (by kernel_rfl))
 f285 := Tryz.func119.trans (congrArg some (by kernel_rfl))
 f286 := Tryz.func120.trans (congrArg some (by kernel_rfl))
 f317 := Tryz.func128.trans (congrArg some (by kernel_rfl))
 f318 := Tryz.func130.trans (congrArg some (by kernel_rfl))
 f319 := Tryz.func131.trans (congrArg some (by kernel_rfl))
 f320 := Tryz.func132.trans (congrArg some (by kernel_rfl))
 f337 := Tryz.func139.trans (congrArg some (by kernel_rfl))
 f338 := Tryz.func140.trans (congrArg some (by kernel_rfl))
 t0 := Tryz.underlying0
 a0 := Tryz.isAgg0
 z0 := Tryz.sizeOf0
 v0 := Tryz.zeroValue0
 t2 := Tryz.underlying2
 a2 := Tryz.isAgg2
 z2 := Tryz.sizeOf2
 v2 := Tryz.zeroValue2
 t3 := Tryz.underlying3
 a3 := Tryz.isAgg3
 z3 := Tryz.sizeOf3
 v3 := Tryz.zeroValue3
 t4 := Tryz.underlying4
 a4 := Tryz.isAgg4
 z4 := Tryz.sizeOf4
 v4 := Tryz.zeroValue4
 t5 := Tryz.underlying5
 a5 := Tryz.isAgg5
 z5 := Tryz.sizeOf5
 v5 := Tryz.zeroValue5
 t9 := Tryz.underlying9
 a9 := Tryz.isAgg9
 z9 := Tryz.sizeOf9
 v9 := Tryz.zeroValue9
 t20 := Tryz.underlying20
 a20 := Tryz.isAgg20
 z20 := Tryz.sizeOf20
 v20 := Tryz.zeroValue20
 t37 := Tryz.underlying22
 a37 := Tryz.isAgg22
 z37 := Tryz.sizeOf22
 v37 := Tryz.zeroValue22
 t46 := Tryz.underlying142
 a46 := Tryz.isAgg142
 z46 := Tryz.sizeOf142
 v46 := Tryz.zeroValue142
 t51 := Tryz.underlying140
 a51 := Tryz.isAgg140
 z51 := Tryz.sizeOf140
 v51 := Tryz.zeroValue140
 t53 := Tryz.underlying132
 a53 := Tryz.isAgg132
 z53 := Tryz.sizeOf132
 v53 := Tryz.zeroValue132
 t171 := Tryz.underlying131
 a171 := Tryz.isAgg131
 z171 := Tryz.sizeOf131
 v171 := Tryz.zeroValue131
 t173 := Tryz.underlying135
 a173 := Tryz.isAgg135
 z173 := Tryz.sizeOf135
 v173 := Tryz.zeroValue135
 t212 := Tryz.underlying139
 a212 := Tryz.isAgg139
 z212 := Tryz.sizeOf139
 v212 := Tryz.zeroValue139
 t213 := Tryz.underlying141
 a213 := Tryz.isAgg141
 z213 := Tryz.sizeOf141
 t232 := Tryz.underlying156
 a232 := Tryz.isAgg156
 z232 := Tryz.sizeOf156
 v232 := Tryz.zeroValue156
 t233 := Tryz.underlying157
 a233 := Tryz.isAgg157
 z233 := Tryz.sizeOf157
 v233 := Tryz.zeroValue157
 g17 := by kernel_rfl
 g18 := by kernel_rfl
 g19 := by kernel_rfl
 i0 := by kernel_rfl
 i2 := by kernel_rfl
 i3 := by kernel_rfl
 i4 := by kernel_rfl
 i5 := by kernel_rfl
 i9 := by kernel_rfl
 i20 := by kernel_rfl
 i37 := by kernel_rfl
 i46 := by kernel_rfl
 i51 := by kernel_rfl
 i53 := by kernel_rfl
 i171 := by kernel_rfl
 i173 := by kernel_rfl
 i212 := by kernel_rfl
 i232 := by kernel_rfl
 i233 := by kernel_rfl
 m17 := by kernel_rfl
 m18 := by kernel_rfl
 m19 := by kernel_rfl }
open Go.RowKit Go.Sort Go.Lib in
theorem Tryz.strconv_Itoa (n : Int) (h0 : -9223372036854775808 ≤ n) (h1 : n ≤ 9223372036854775807) (w : World) (htab : Lib.TabIs Tryz.prog w "internal/strconv.uint64pow10" .u64 Lib.pow10Tab) :
    Calls Tryz.prog 49 #[.int .i64 n] w fun e w' => e = .returned (.string ⟨(Lib.itoa n).toArray⟩) ∧ ∃ k os, w' = grow (w.drewN k) os := Any.strconv_Itoa Tryz.laysM171 n h0 h1 w htab
def Tryz.lays137_ren : Go.Shelf.Ren := ⟨fun | 137 => 89 | 217 => 112 | 266 => 123 | n => n, fun | 9 => 9 | 5 => 5 | 3 => 3 | n => n, fun | n => n⟩
theorem Tryz.lays137 : Go.Proofs.Lays.n137 Tryz.prog Tryz.lays137_ren := {
 mixed := by kernel_rfl
 f137 := Tryz.func89.trans (congrArg some (by kernel_rfl))
 f217 := Tryz.func112.trans (congrArg some (by kernel_rfl))
 f266 := Tryz.func123.trans (congrArg some (by kernel_rfl))
 t3 := Tryz.underlying3
 a3 := Tryz.isAgg3
 z3 := Tryz.sizeOf3
 v3 := Tryz.zeroValue3
 t5 := Tryz.underlying5
 a5 := Tryz.isAgg5
 z5 := Tryz.sizeOf5
 v5 := Tryz.zeroValue5
 t9 := Tryz.underlying9
 a9 := Tryz.isAgg9
 z9 := Tryz.sizeOf9
 v9 := Tryz.zeroValue9 }
open Go.RowKit in
theorem Tryz.strings_IndexByte (s : ByteArray) (c : Int) (w : World) :
    Calls Tryz.prog 89 #[.string s, .int .u8 c] w fun e w' => e = .returned (.int .i64 (Lib.indexByte s.data.toList c.toNat.toUInt8)) ∧ w' = w := Any.strings_IndexByte Tryz.lays137 s c w
def Tryz.laysM316_ren : Go.Shelf.Ren := ⟨fun | 316 => 96 | n => n, fun | 9 => 9 | 3 => 3 | 4 => 4 | 37 => 22 | 0 => 0 | 127 => 89 | 5 => 5 | n => n, fun | n => n⟩
theorem Tryz.laysM316 : Go.Proofs.LaysM.n316 Tryz.prog Tryz.laysM316_ren := {
 mixed := by kernel_rfl
 f316 := Tryz.func96.trans (congrArg some (by kernel_rfl))
 t0 := Tryz.underlying0
 a0 := Tryz.isAgg0
 z0 := Tryz.sizeOf0
 v0 := Tryz.zeroValue0
 t3 := Tryz.underlying3
 a3 := Tryz.isAgg3
 z3 := Tryz.sizeOf3
 v3 := Tryz.zeroValue3
 t4 := Tryz.underlying4
 a4 := Tryz.isAgg4
 z4 := Tryz.sizeOf4
 v4 := Tryz.zeroValue4
 t9 := Tryz.underlying9
 a9 := Tryz.isAgg9
 z9 := Tryz.sizeOf9
 v9 := Tryz.zeroValue9
 t37 := Tryz.underlying22
 a37 := Tryz.isAgg22
 z37 := Tryz.sizeOf22
 v37 := Tryz.zeroValue22
 t127 := Tryz.underlying89
 a127 := Tryz.isAgg89
 z127 := Tryz.sizeOf89
 v127 := Tryz.zeroValue89
 t5 := Tryz.underlying5
 a5 := Tryz.isAgg5
 z5 := Tryz.sizeOf5
 v5 := Tryz.zeroValue5
 i0 := by kernel_rfl
 i3 := by kernel_rfl
 i4 := by kernel_rfl
 i5 := by kernel_rfl
 i9 := by kernel_rfl
 i37 := by kernel_rfl
 i127 := by kernel_rfl }
open Go.RowKit in
theorem Tryz.stringslite_Clone (s : ByteArray) (w : World) (hlim : s.size ≤ 281474976710656) :
    Calls Tryz.prog 96 #[.string s] w fun e w' => e = .returned (.string s) ∧ Below w.heap.size w w' := Any.stringslite_Clone Tryz.laysM316 s w hlim
def Tryz.lays172_ren : Go.Shelf.Ren := ⟨fun | 172 => 114 | 244 => 125 | 245 => 126 | 247 => 134 | 279 => 135 | 280 => 136 | 281 => 137 | 282 => 138 | 287 => 141 | 316 => 96 | 171 => 49 | 205 => 142 | 321 => 143 | 322 => 144 | 243 => 79 | 246 => 106 | 283 => 117 | 284 => 118 | 285 => 119 | 286 => 120 | 129 => 129 | 317 => 128 | 318 => 130 | 319 => 131 | 320 => 132 | 337 => 139 | 338 => 140 | n => n, fun | 9 => 9 | 3 => 3 | 75 => 108 | 76 => 109 | 4 => 4 | 5 => 5 | 167 => 144 | 37 => 22 | 0 => 0 | 85 => 145 | 2 => 2 | 168 => 147 | 53 => 132 | 175 => 151 | 46 => 142 | 210 => 154 | 127 => 89 | 145 => 161 | 143 => 159 | 21 => 21 | 171 => 131 | 173 => 135 | 212 => 139 | 51 => 140 | 20 => 20 | 213 => 141 | 232 => 156 | 233 => 157 | 80 => 49 | n => n, fun | 15 => 2 | 16 => 3 | 17 => 0 | 18 => 4 | 19 => 5 | n => n⟩
theorem Tryz.lays172 : Go.Proofs.Lays.n172 Tryz.prog Tryz.lays172_ren := {
 mixed := by kernel_rfl
 f129 := Tryz.func129.trans (congrArg some (by kernel_rfl))
 f171 := Tryz.func49.trans (congrArg some (by kernel_rfl))
 f172 := Tryz.func114.trans (congrArg some (by kernel_rfl))
 f205 := Tryz.func142.trans (congrArg some (by kernel_rfl))
 f243 := Tryz.func79.trans (congrArg some (by kernel_rfl))
 f244 := Tryz.func125.trans (congrArg some (by kernel_rfl))
 f245 := Tryz.func126.trans (congrArg some (by kernel_rfl))
 f246 := Tryz.func106.trans (congrArg some (by kernel_rfl))
 f247 := Tryz.func134.trans (congrArg some (by kernel_rfl))
 f279 := Tryz.func135.trans (congrArg some (by kernel_rfl))
 f280 := Tryz.func136.trans (congrArg some (by kernel_rfl))
 f281 := Tryz.func137.trans (congrArg some (by kernel_rfl))
 f282 := Tryz.func138.trans (congrArg some (by kernel_rfl))
 f283 := Tryz.func117.trans (congrArg some (by kernel_rfl))
 f284 := Tryz.func118.trans (congrArg some (by kernel_rfl))
 f285 := Tryz.func119.trans (congrArg some (by kernel_rfl))
 f286 := Tryz.func120.trans (congrArg some (by kernel_rfl))
 f287 := Tryz.func141.trans (congrArg some (by kernel_rfl))
 f316 := Tryz.func96.trans (congrArg some (by kernel_rfl))
 f317 := Tryz.func128.trans (congrArg some (by kernel_rfl))
 f318 := Tryz.func130.trans (congrArg some (by kernel_rfl))
 f319 := Tryz.func131.trans (congrArg some (by kernel_rfl))
 f320 := Tryz.func132.trans (congrArg some (by kernel_rfl))
 f321 := Tryz.func143.trans (congrArg some (by kernel_rfl))
 f322 := Tryz.func144.trans (congrArg some (by kernel_rfl))
 f337 := Tryz.func139.trans (congrArg some (by kernel_rfl))
 f338 := Tryz.func140.trans (congrArg some (by kernel_rfl))
 t0 := Tryz.underlying0
 a0 := Tryz.isAgg0
 z0 := Tryz.sizeOf0
 v0 := Tryz.zeroValue0
 t2 := Tryz.underlying2
 a2 := Tryz.isAgg2
 z2 := Tryz.sizeOf2
 v2 := Tryz.zeroValue2
 t3 := Tryz.underlying3
 a3 := Tryz.isAgg3
 z3 := Tryz.sizeOf3
 v3 := Tryz.zeroValue3
 t4 := Tryz.underlying4
 a4 := Tryz.isAgg4
 z4 := Tryz.sizeOf4
 v4 := Tryz.zeroValue4
 t5 := Tryz.underlying5
 a5 := Tryz.isAgg5
 z5 := Tryz.sizeOf5
 v5 := Tryz.zeroValue5
 t9 := Tryz.underlying9
 a9 := Tryz.isAgg9
 z9 := Tryz.sizeOf9
 v9 := Tryz.zeroValue9
 t20 := Tryz.underlying20
 a20 := Tryz.isAgg20
 z20 := Tryz.sizeOf20
 v20 := Tryz.zeroValue20
 t21 := Tryz.underlying21
 a21 := Tryz.isAgg21
 z21 := Tryz.sizeOf21
 v21 := Tryz.zeroValue21
 t37 := Tryz.underlying22
 a37 := Tryz.isAgg22
 z37 := Tryz.sizeOf22
 v37 := Tryz.zeroValue22
 t46 := Tryz.underlying142
 a46 := Tryz.isAgg142
 z46 := Tryz.sizeOf142
 v46 := Tryz.zeroValue142
 t51 := Tryz.underlying140
 a51 := Tryz.isAgg140
 z51 := Tryz.sizeOf140
 v51 := Tryz.zeroValue140
 t53 := Tryz.underlying132
 a53 := Tryz.isAgg132
 z53 := Tryz.sizeOf132
 v53 := Tryz.zeroValue132
 t75 := Tryz.underlying108
 a75 := Tryz.isAgg108
 z75 := Tryz.sizeOf108
 v75 := Tryz.zeroValue108
 t76 := Tryz.underlying109
 a76 := Tryz.isAgg109
 z76 := Tryz.sizeOf109
 v76 := Tryz.zeroValue109
 t85 := Tryz.underlying145
 a85 := Tryz.isAgg145
 z85 := Tryz.sizeOf145
 v85 := Tryz.zeroValue145
 t127 := Tryz.underlying89
 a127 := Tryz.isAgg89
 z127 := Tryz.sizeOf89
 v127 := Tryz.zeroValue89
 t143 := Tryz.underlying159
 a143 := Tryz.isAgg159
 z143 := Tryz.sizeOf159
 v143 := Tryz.zeroValue159
 t145 := Tryz.underlying161
 a145 := Tryz.isAgg161
 z145 := Tryz.sizeOf161
 v145 := Tryz.zeroValue161
 t167 := Tryz.underlying144
 a167 := Tryz.isAgg144
 z167 := Tryz.sizeOf144
 v167 := Tryz.zeroValue144
 t168 := Tryz.underlying147
 a168 := Tryz.isAgg147
 z168 := Tryz.sizeOf147
 v168 := Tryz.zeroValue147
 t171 := Tryz.underlying131
 a171 := Tryz.isAgg131
 z171 := Tryz.sizeOf131
 v171 := Tryz.zeroValue131
 t173 := Tryz.underlying135
 a173 := Tryz.isAgg135
 z173 := Tryz.sizeOf135
 v173 := Tryz.zeroValue135
 t175 := Tryz.underlying151
 a175 := Tryz.isAgg151
 z175 := Tryz.sizeOf151
 v175 := Tryz.zeroValue151
 t210 := Tryz.underlying154
 a210 := Tryz.isAgg154
 z210 := Tryz.sizeOf154
 v210 := Tryz.zeroValue154
 t212 := Tryz.underlying139
 a212 := Tryz.isAgg139
 z212 := Tryz.sizeOf139
 v212 := Tryz.zeroValue139
 t213 := Tryz.underlying141
 a213 := Tryz.isAgg141
 z213 := Tryz.sizeOf141
 t232 := Tryz.underlying156
 a232 := Tryz.isAgg156
 z232 := Tryz.sizeOf156
 v232 := Tryz.zeroValue156
 t233 := Tryz.underlying157
 a233 := Tryz.isAgg157
 z233 := Tryz.sizeOf157
 v233 := Tryz.zeroValue157
 g15 := by kernel_rfl
 g16 := by kernel_rfl
 g17 := by kernel_rfl
 g18 := by kernel_rfl
 g19 := by kernel_rfl }
open Go.RowKit in
theorem Tryz.strconv_Atoi (s : ByteArray) (n : Int) (hl : s.size ≤ 18) (h : Lib.atoi s.data.toList = some n) (w : World) :
    Calls Tryz.prog 114 #[.string s] w fun e w' => e = .returned (.tuple #[.int .i64 n, .nilIface]) ∧ ∃ t, w' = Lib.bytesWorld w 5 t := Any.strconv_Atoi Tryz.lays172 s n hl h w
end Go.Proofs.YtjmjmdmnejnlbaaGreatDoor
namespace Go.Proofs.YtjmjmdmnejnlbaaGreatDoor
open Go.RowKit
open Pl

/-- A word as data. -/
structure W3 where
 k : Int
 s : ByteArray
 a : Int

/-- The words lie from offset off on in block b. -/
def LiesW (w : World) (b off : Nat) (ws : List W3) : Prop := ∀ i x, ws[i]? = some x →
 w.cell? ⟨b, off + i * 3, none⟩ = some (.int .i64 x.k) ∧ w.cell? ⟨b, off + i * 3 + 1, none⟩ = some (.string x.s) ∧ w.cell? ⟨b, off + i * 3 + 2, none⟩ = some (.int .i64 x.a)
theorem LiesW.below {w w' : World} {b off : Nat} {ws : List W3} (h : LiesW w b off ws) (hb : Below w.heap.size w w') : LiesW w' b off ws := fun i x hx => by
 obtain ⟨h0, h1, h2⟩ := h i x hx
 have hlt := World.block_lt_of_cell? w _ h0
 exact ⟨(hb.cell (p := ⟨b, off + i * 3, none⟩) hlt).trans h0, (hb.cell (p := ⟨b, off + i * 3 + 1, none⟩) hlt).trans h1, (hb.cell (p := ⟨b, off + i * 3 + 2, none⟩) hlt).trans h2⟩
/-- The cells of a list of words. -/
def flat (ws : List W3) : List Value := ws.flatMap fun x => [.int .i64 x.k, .string x.s, .int .i64 x.a]
theorem flat_length (ws : List W3) : (flat ws).length = ws.length * 3 := by
 induction ws with
 | nil => rfl
 | cons x ws ih =>
   have : flat (x :: ws) = [.int .i64 x.k, .string x.s, .int .i64 x.a] ++ flat ws := rfl
   rw [this]
   simp only [List.length_append, List.length_cons, List.length_nil, ih]
   omega
theorem flat_append (a b : List W3) : flat (a ++ b) = flat a ++ flat b := by simp [flat]
theorem flat_get {ws : List W3} {k : Nat} {x : W3} (hx : ws[k]? = some x) : (flat ws)[k * 3]? = some (.int .i64 x.k) ∧ (flat ws)[k * 3 + 1]? = some (.string x.s) ∧ (flat ws)[k * 3 + 2]? = some (.int .i64 x.a) := by
 obtain ⟨hk, hx'⟩ := List.getElem?_eq_some_iff.1 hx
 have e : ws = ws.take k ++ x :: ws.drop (k + 1) := by
  rw [← hx', ← List.drop_eq_getElem_cons hk, List.take_append_drop]
 have hl : (flat (ws.take k)).length = k * 3 := by rw [flat_length]; simp; omega
 have e2 : flat ws = flat (ws.take k) ++ (.int .i64 x.k :: .string x.s :: .int .i64 x.a :: flat (ws.drop (k + 1))) := by
  conv => lhs; rw [e]
  rw [flat_append]; rfl
 rw [e2]
 refine ⟨?_, ?_, ?_⟩
 ·rw [List.getElem?_append_right (by omega), hl]; simp
 ·rw [List.getElem?_append_right (by omega), hl, show k * 3 + 1 - k * 3 = 1 by omega]; rfl
 ·rw [List.getElem?_append_right (by omega), hl, show k * 3 + 2 - k * 3 = 2 by omega]; rfl
/-- A row of our own holds the words. -/
theorem lies_of_row {w : World} {base e g cap : Nat} {ws : List W3} (h : w.ownsRow base e 3 (.slice (some ⟨g, 0, none⟩) ws.length cap) ws.length (flat ws)) : LiesW w g 0 ws := fun i x hx => by
 obtain ⟨hi, _⟩ := List.getElem?_eq_some_iff.1 hx
 obtain ⟨f0, f1, f2⟩ := flat_get hx
 rw [Nat.zero_add]
 exact ⟨(h.cellAt (i * 3) (by omega)).trans f0, (h.cellAt (i * 3 + 1) (by omega)).trans f1, (h.cellAt (i * 3 + 2) (by omega)).trans f2⟩

theorem Tryz.info58 : (Tryz.prog.info? 58).map (fun i => (i.zero, i.size, i.bytes)) = some (some (.agg #[.int .i64 0, .string ByteArray.empty, .int .i64 0]), 3, 32) := by kernel_rfl
theorem ret_str {a b : ByteArray} (h : a = b) : Ending.returned (.string a) = .returned (.string b) := by rw [h]
end Go.Proofs.YtjmjmdmnejnlbaaGreatDoor
namespace Go.Proofs.YtjmjmdmnejnlbaaGreatDoor
open Go.RowKit
open Pl

/-- The first place from at on where p holds, or n. -/
def firstF (p : Nat → Bool) (n : Nat) : Nat → Nat → Nat
 | 0, at_ => at_
 | f + 1, at_ => if at_ < n then (if p at_ then at_ else firstF p n f (at_ + 1)) else at_
def first (p : Nat → Bool) (n at_ : Nat) : Nat := firstF p n (n - at_) at_
def IsFirst (p : Nat → Bool) (n at_ e : Nat) : Prop := at_ ≤ e ∧ e ≤ n ∧ (∀ j, at_ ≤ j → j < e → p j = false) ∧ (e = n ∨ p e = true)
theorem firstF_is (p : Nat → Bool) (n : Nat) (f at_ : Nat) (h : at_ ≤ n) (hf : n - at_ ≤ f) : IsFirst p n at_ (firstF p n f at_) := by
 induction f generalizing at_ with
 | zero => have : at_ = n := by omega
           subst this; exact ⟨Nat.le_refl _, Nat.le_refl _, fun j h1 h2 => by simp [firstF] at h2; omega, .inl rfl⟩
 | succ f ih =>
   simp only [firstF]
   by_cases h1 : at_ < n
   ·rw [if_pos h1]
    by_cases h2 : p at_ = true
    ·rw [if_pos h2]
     exact ⟨Nat.le_refl _, h, fun j a b => by omega, .inr h2⟩
    ·rw [if_neg h2]
     obtain ⟨a, b, c, d⟩ := ih (at_ + 1) (by omega) (by omega)
     refine ⟨by omega, b, fun j hj hj' => ?_, d⟩
     by_cases e : j = at_
     ·subst e; simpa using h2
     ·exact c j (by omega) hj'
   ·rw [if_neg h1]
    exact ⟨Nat.le_refl _, h, fun j a b => by omega, .inl (by omega)⟩
theorem first_is (p : Nat → Bool) (n at_ : Nat) (h : at_ ≤ n) : IsFirst p n at_ (first p n at_) := firstF_is p n _ at_ h (Nat.le_refl _)
theorem first_eq {p : Nat → Bool} {n at_ e : Nat} (h : IsFirst p n at_ e) : first p n at_ = e := by
 obtain ⟨a, b, c, d⟩ := h
 obtain ⟨a', b', c', d'⟩ := first_is p n at_ (by omega)
 rcases Nat.lt_trichotomy (first p n at_) e with hlt | heq | hgt
 ·have := c _ a' hlt
  rcases d' with h | h
  ·omega
  ·rw [h] at this; cases this
 ·exact heq
 ·have := c' _ a hgt
  rcases d with h | h
  ·omega
  ·rw [h] at this; cases this

def alnum (s : ByteArray) (k : Nat) : Bool := lowI (byt s k) || digI (byt s k)
def runE (s : ByteArray) (at_ : Nat) : Nat := first (fun j => !alnum s j) s.size at_
def noteE (s : ByteArray) (at_ : Nat) : Nat := first (fun j => byt s j == 10) s.size at_
def blankB (s : ByteArray) (k : Nat) : Bool := byt s k == 32 || byt s k == 10

theorem noteE_gt {s : ByteArray} {at_ : Nat} (h : at_ < s.size) (h35 : byt s at_ = 35) : at_ < noteE s at_ := by
 obtain ⟨a, b, c, d⟩ := first_is (fun j => byt s j == 10) s.size at_ (by omega)
 rcases Nat.lt_or_ge at_ (noteE s at_) with h1 | h1
 ·exact h1
 ·have e : noteE s at_ = at_ := by have : at_ ≤ noteE s at_ := a; omega
  have d' : noteE s at_ = s.size ∨ (byt s (noteE s at_) == 10) = true := d
  rw [e, h35] at d'
  simp at d'
  omega
theorem noteE_le {s : ByteArray} {at_ : Nat} (h : at_ ≤ s.size) : noteE s at_ ≤ s.size := (first_is _ _ _ h).2.1

def skipF (s : ByteArray) : Nat → Nat → Nat
 | 0, at_ => at_
 | f + 1, at_ => if at_ < s.size then (if blankB s at_ then skipF s f (at_ + 1) else if byt s at_ = 35 then skipF s f (noteE s at_) else at_) else at_
def skipI (s : ByteArray) (at_ : Nat) : Nat := skipF s (s.size - at_) at_
theorem skipF_fuel (s : ByteArray) (f g at_ : Nat) (hf : s.size - at_ ≤ f) (hg : s.size - at_ ≤ g) : skipF s f at_ = skipF s g at_ := by
 induction f generalizing g at_ with
 | zero =>
   cases g with
   | zero => rfl
   | succ g => simp only [skipF]; rw [if_neg (by omega)]
 | succ f ih =>
   cases g with
   | zero => simp only [skipF]; rw [if_neg (by omega)]
   | succ g =>
     simp only [skipF]
     by_cases h : at_ < s.size
     ·rw [if_pos h, if_pos h]
      by_cases hb : blankB s at_ = true
      ·rw [if_pos hb, if_pos hb]; exact ih g _ (by omega) (by omega)
      ·rw [if_neg hb, if_neg hb]
       by_cases h35 : byt s at_ = 35
       ·rw [if_pos h35, if_pos h35]
        have := noteE_gt h h35
        exact ih g _ (by omega) (by omega)
       ·rw [if_neg h35, if_neg h35]
     ·rw [if_neg h, if_neg h]
theorem skip_blank {s : ByteArray} {at_ : Nat} (h : at_ < s.size) (hb : blankB s at_ = true) : skipI s at_ = skipI s (at_ + 1) := by
 unfold skipI
 obtain ⟨f, hf⟩ : ∃ f, s.size - at_ = f + 1 := ⟨s.size - at_ - 1, by omega⟩
 rw [hf]; simp only [skipF]; rw [if_pos h, if_pos hb]
 exact skipF_fuel s _ _ _ (by omega) (by omega)
theorem skip_note {s : ByteArray} {at_ : Nat} (h : at_ < s.size) (h35 : byt s at_ = 35) : skipI s at_ = skipI s (noteE s at_) := by
 have hb : ¬ blankB s at_ = true := by unfold blankB; rw [h35]; decide
 unfold skipI
 obtain ⟨f, hf⟩ : ∃ f, s.size - at_ = f + 1 := ⟨s.size - at_ - 1, by omega⟩
 rw [hf]; simp only [skipF]; rw [if_pos h, if_neg hb, if_pos h35]
 have := noteE_gt h h35
 exact skipF_fuel s _ _ _ (by omega) (by omega)
theorem skip_stop {s : ByteArray} {at_ : Nat} (h : at_ < s.size) (hb : blankB s at_ = false) (h35 : byt s at_ ≠ 35) : skipI s at_ = at_ := by
 unfold skipI
 obtain ⟨f, hf⟩ : ∃ f, s.size - at_ = f + 1 := ⟨s.size - at_ - 1, by omega⟩
 rw [hf]; simp only [skipF]; rw [if_pos h, if_neg (by simp [hb]), if_neg h35]
theorem skip_end {s : ByteArray} {at_ : Nat} (h : ¬ at_ < s.size) : skipI s at_ = at_ := by
 unfold skipI
 rw [show s.size - at_ = 0 by omega]; rfl
theorem skip_ge (s : ByteArray) (at_ : Nat) : at_ ≤ skipI s at_ := by
 unfold skipI
 generalize hf : s.size - at_ = f
 induction f using Nat.strongRecOn generalizing at_ with
 | _ f ih =>
   by_cases h : at_ < s.size
   ·by_cases hb : blankB s at_ = true
    ·have e := skip_blank h hb
     unfold skipI at e
     rw [← hf, e]
     have := ih (s.size - (at_ + 1)) (by omega) (at_ + 1) rfl
     omega
    ·by_cases h35 : byt s at_ = 35
     ·have e := skip_note h h35
      have hg := noteE_gt h h35
      unfold skipI at e
      rw [← hf, e]
      have := ih (s.size - noteE s at_) (by omega) (noteE s at_) rfl
      omega
     ·have e := skip_stop h (by simpa using hb) h35
      unfold skipI at e
      rw [← hf, e]; exact Nat.le_refl _
   ·have e := skip_end h
    unfold skipI at e
    rw [← hf, e]; exact Nat.le_refl _
theorem skip_le {s : ByteArray} {at_ : Nat} (h : at_ ≤ s.size) : skipI s at_ ≤ s.size := by
 generalize hf : s.size - at_ = f
 induction f using Nat.strongRecOn generalizing at_ with
 | _ f ih =>
   by_cases h1 : at_ < s.size
   ·by_cases hb : blankB s at_ = true
    ·rw [skip_blank h1 hb]
     exact ih (s.size - (at_ + 1)) (by omega) (by omega) rfl
    ·by_cases h35 : byt s at_ = 35
     ·rw [skip_note h1 h35]
      have hg := noteE_gt h1 h35
      exact ih (s.size - noteE s at_) (by omega) (noteE_le h) rfl
     ·rw [skip_stop h1 (by simpa using hb) h35]; exact h
   ·rw [skip_end h1]; exact h
/-- Where that ends which could be a word at a place. -/
def endI (s : ByteArray) (at_ : Nat) : Nat := if alnum s at_ then runE s at_ else if at_ + 1 < s.size ∧ signB (s.extract at_ (at_ + 2)) = true then at_ + 2 else at_ + 1
theorem runE_gt {s : ByteArray} {at_ : Nat} (h : at_ < s.size) (ha : alnum s at_ = true) : at_ < runE s at_ := by
 obtain ⟨a, b, c, d⟩ := first_is (fun j => !alnum s j) s.size at_ (by omega)
 rcases Nat.lt_or_ge at_ (runE s at_) with h1 | h1
 ·exact h1
 ·have e : runE s at_ = at_ := by have : at_ ≤ runE s at_ := a; omega
  have d' : runE s at_ = s.size ∨ (!alnum s (runE s at_)) = true := d
  rw [e, ha] at d'
  simp at d'
  omega
theorem endI_gt {s : ByteArray} {at_ : Nat} (h : at_ < s.size) : at_ < endI s at_ ∧ endI s at_ ≤ s.size := by
 unfold endI
 split
 ·rename_i ha
  exact ⟨runE_gt h ha, (first_is _ _ _ (by omega)).2.1⟩
 ·split <;> omega

/-- The words from a place on, behind those that were read; code and place of the fault. -/
def scanF (s : ByteArray) : Nat → Nat → List W3 → List W3 × Int × Int
 | 0, _, acc => (acc, 0, 0)
 | f + 1, at_, acc => if at_ < s.size then
     (if kindI (s.extract at_ (endI s at_)) = 0 then ([], 2, at_) else if acc.length = 1500 then ([], 3, at_) else
      scanF s f (skipI s (endI s at_)) (acc ++ [⟨kindI (s.extract at_ (endI s at_)), s.extract at_ (endI s at_), at_⟩]))
   else (acc, 0, 0)
def scanI (s : ByteArray) (at_ : Nat) (acc : List W3) : List W3 × Int × Int := scanF s (s.size - at_) at_ acc
theorem scanF_fuel (s : ByteArray) (f g at_ : Nat) (acc : List W3) (hf : s.size - at_ ≤ f) (hg : s.size - at_ ≤ g) : scanF s f at_ acc = scanF s g at_ acc := by
 induction f generalizing g at_ acc with
 | zero =>
   cases g with
   | zero => rfl
   | succ g => simp only [scanF]; rw [if_neg (by omega)]
 | succ f ih =>
   cases g with
   | zero => simp only [scanF]; rw [if_neg (by omega)]
   | succ g =>
     simp only [scanF]
     by_cases h : at_ < s.size
     ·rw [if_pos h, if_pos h]
      have h1 := endI_gt h
      have h2 := skip_ge s (endI s at_)
      rw [ih g _ _ (by omega) (by omega)]
     ·rw [if_neg h, if_neg h]
theorem scan_end {s : ByteArray} {at_ : Nat} {acc : List W3} (h : ¬ at_ < s.size) : scanI s at_ acc = (acc, 0, 0) := by
 unfold scanI
 rw [show s.size - at_ = 0 by omega]; rfl
theorem scan_bad {s : ByteArray} {at_ : Nat} {acc : List W3} (h : at_ < s.size) (hk : kindI (s.extract at_ (endI s at_)) = 0) : scanI s at_ acc = ([], 2, (at_ : Int)) := by
 unfold scanI
 obtain ⟨f, hf⟩ : ∃ f, s.size - at_ = f + 1 := ⟨s.size - at_ - 1, by omega⟩
 rw [hf]; simp only [scanF]; rw [if_pos h, if_pos hk]
theorem scan_many {s : ByteArray} {at_ : Nat} {acc : List W3} (h : at_ < s.size) (hk : kindI (s.extract at_ (endI s at_)) ≠ 0) (hm : acc.length = 1500) : scanI s at_ acc = ([], 3, (at_ : Int)) := by
 unfold scanI
 obtain ⟨f, hf⟩ : ∃ f, s.size - at_ = f + 1 := ⟨s.size - at_ - 1, by omega⟩
 rw [hf]; simp only [scanF]; rw [if_pos h, if_neg hk, if_pos hm]
theorem scan_go {s : ByteArray} {at_ : Nat} {acc : List W3} (h : at_ < s.size) (hk : kindI (s.extract at_ (endI s at_)) ≠ 0) (hm : acc.length ≠ 1500) :
    scanI s at_ acc = scanI s (skipI s (endI s at_)) (acc ++ [⟨kindI (s.extract at_ (endI s at_)), s.extract at_ (endI s at_), at_⟩]) := by
 have h1 := endI_gt h
 have h2 := skip_ge s (endI s at_)
 unfold scanI
 obtain ⟨f, hf⟩ : ∃ f, s.size - at_ = f + 1 := ⟨s.size - at_ - 1, by omega⟩
 rw [hf]; simp only [scanF]; rw [if_pos h, if_neg hk, if_neg hm]
 exact scanF_fuel s _ _ _ _ (by omega) (by omega)
def wordsI (s : ByteArray) : List W3 × Int × Int := if 4000 < s.size then ([], 1, 0) else scanI s (skipI s 0) []
end Go.Proofs.YtjmjmdmnejnlbaaGreatDoor
namespace Go.Proofs.YtjmjmdmnejnlbaaGreatDoor
open Go.RowKit
open Pl

/-- What was read and the place behind it, or the place where it ends. -/
inductive Res where
 | ok (t : T) (j : Nat)
 | no (p : Nat)

def isW (ws : List W3) (i : Nat) (s : ByteArray) : Bool := match ws[i]? with
 | some x => decide (x.s = s)
 | none => false
def kindW (ws : List W3) (i : Nat) : Int := match ws[i]? with
 | some x => x.k
 | none => 0
def textW (ws : List W3) (i : Nat) : ByteArray := match ws[i]? with
 | some x => x.s
 | none => ⟨#[]⟩

/-- The comparing signs. -/
def relI (s : ByteArray) : Int := if s = ⟨#[60]⟩ then 11 else if s = ⟨#[60, 61]⟩ then 12 else if s = ⟨#[62]⟩ then 13 else if s = ⟨#[62, 61]⟩ then 14 else if s = ⟨#[61, 61]⟩ then 15 else if s = ⟨#[33, 61]⟩ then 16 else 0

def nil_ : ByteArray := ⟨#[]⟩
def Res.then_ (r : Res) (f : T → Nat → Res) : Res := match r with
 | .ok t j => f t j
 | .no p => .no p
/-- A word that must stand there. -/
def want (ws : List W3) (j : Nat) (s : ByteArray) (r : Res) : Res := if isW ws j s then r else .no j
def wantK (ws : List W3) (j : Nat) (k : Int) (r : Res) : Res := if kindW ws j = k then r else .no j

mutual
def mOne (ws : List W3) : Nat → Nat → Res
 | 0, i => .no i
 | f + 1, i =>
   if isW ws i ⟨#[45]⟩ then (mOne ws f (i + 1)).then_ fun x j => .ok (.node 5 nil_ 0 [x]) j else
   if isW ws i ⟨#[40]⟩ then (mExpr ws f (i + 1)).then_ fun x j => want ws j ⟨#[41]⟩ (.ok x (j + 1)) else
   if isW ws i ⟨#[108, 101, 110]⟩ then want ws (i + 1) ⟨#[40]⟩ (wantK ws (i + 2) 1 (want ws (i + 3) ⟨#[41]⟩ (.ok (.node 4 (textW ws (i + 2)) 0 []) (i + 4)))) else
   if kindW ws i = 2 then .ok (.node 1 nil_ (numV (textW ws i)) []) (i + 1) else
   wantK ws i 1 (if isW ws (i + 1) ⟨#[91]⟩ then (mExpr ws f (i + 2)).then_ fun x j => want ws j ⟨#[93]⟩ (.ok (.node 3 (textW ws i) 0 [x]) (j + 1)) else
    .ok (.node 2 (textW ws i) 0 []) (i + 1))
def mTerm (ws : List W3) : Nat → Nat → Res
 | 0, i => .no i
 | f + 1, i => (mOne ws f i).then_ fun x j => mTermL ws f x j
def mTermL (ws : List W3) : Nat → T → Nat → Res
 | 0, _, i => .no i
 | f + 1, x, i => if isW ws i ⟨#[42]⟩ then (mOne ws f (i + 1)).then_ fun y j => mTermL ws f (.node 8 nil_ 0 [x, y]) j else .ok x i
def mExpr (ws : List W3) : Nat → Nat → Res
 | 0, i => .no i
 | f + 1, i => (mTerm ws f i).then_ fun x j => mExprL ws f x j
def mExprL (ws : List W3) : Nat → T → Nat → Res
 | 0, _, i => .no i
 | f + 1, x, i => if isW ws i ⟨#[43]⟩ then (mTerm ws f (i + 1)).then_ fun y j => mExprL ws f (.node 6 nil_ 0 [x, y]) j else
   if isW ws i ⟨#[45]⟩ then (mTerm ws f (i + 1)).then_ fun y j => mExprL ws f (.node 7 nil_ 0 [x, y]) j else .ok x i
end
def mCond (ws : List W3) (f i : Nat) : Res := (mExpr ws f i).then_ fun x j =>
 if relI (textW ws j) = 0 then .no j else (mExpr ws f (j + 1)).then_ fun y j2 => .ok (.node (relI (textW ws j)) nil_ 0 [x, y]) j2
def mShort (ws : List W3) (f i : Nat) : Res :=
 if isW ws i ⟨#[114, 101, 97, 100]⟩ then wantK ws (i + 1) 1 (.ok (.node 23 (textW ws (i + 1)) 0 []) (i + 2)) else
 if isW ws i ⟨#[99, 104, 101, 99, 107]⟩ then (mCond ws f (i + 1)).then_ fun x j => .ok (.node 27 nil_ 0 [x]) j else
 if isW ws i ⟨#[115, 107, 105, 112]⟩ then .ok (.node 28 nil_ 0 []) (i + 1) else
 if isW ws i ⟨#[115, 116, 111, 112]⟩ then .ok (.node 29 nil_ 0 []) (i + 1) else
 wantK ws i 1 (if isW ws (i + 1) ⟨#[91]⟩ then (mExpr ws f (i + 2)).then_ fun x j => want ws j ⟨#[93]⟩ (want ws (j + 1) ⟨#[61]⟩ ((mExpr ws f (j + 2)).then_ fun y j2 => .ok (.node 22 (textW ws i) 0 [x, y]) j2)) else
  want ws (i + 1) ⟨#[61]⟩ ((mExpr ws f (i + 2)).then_ fun y j => .ok (.node 21 (textW ws i) 0 [y]) j))
mutual
def mStmt (ws : List W3) (F : Nat) : Nat → Nat → Res
 | 0, i => .no i
 | f + 1, i =>
   if isW ws i ⟨#[105, 102]⟩ then (mCond ws F (i + 1)).then_ fun x j => (mBlock ws F f j).then_ fun y j2 =>
    if isW ws j2 ⟨#[101, 108, 115, 101]⟩ then (mBlock ws F f (j2 + 1)).then_ fun z j3 => .ok (.node 24 nil_ 0 [x, y, z]) j3 else .ok (.node 24 nil_ 0 [x, y, .node 30 nil_ 0 []]) j2 else
   if isW ws i ⟨#[119, 104, 105, 108, 101]⟩ then (mCond ws F (i + 1)).then_ fun x j => (mBlock ws F f j).then_ fun y j2 => .ok (.node 25 nil_ 0 [x, y]) j2 else
   if isW ws i ⟨#[102, 111, 114]⟩ then wantK ws (i + 1) 1 (want ws (i + 2) ⟨#[102, 114, 111, 109]⟩ ((mExpr ws F (i + 3)).then_ fun x j => want ws j ⟨#[116, 111]⟩
    ((mExpr ws F (j + 1)).then_ fun y j2 => (mBlock ws F f j2).then_ fun z j3 => .ok (.node 26 (textW ws (i + 1)) 0 [x, y, z]) j3))) else
   (mShort ws F i).then_ fun x j => want ws j ⟨#[59]⟩ (.ok x (j + 1))
def mBlock (ws : List W3) (F : Nat) : Nat → Nat → Res
 | 0, i => .no i
 | f + 1, i => want ws i ⟨#[123]⟩ (mList ws F f [] (i + 1))
def mList (ws : List W3) (F : Nat) : Nat → List T → Nat → Res
 | 0, _, i => .no i
 | f + 1, acc, i => if isW ws i ⟨#[125]⟩ then .ok (.node 30 nil_ 0 acc) (i + 1) else (mStmt ws F f i).then_ fun x j => mList ws F f (acc ++ [x]) j
end
def mDecl (ws : List W3) (i : Nat) : Res :=
 if isW ws i ⟨#[118, 97, 114]⟩ then wantK ws (i + 1) 1 (want ws (i + 2) ⟨#[59]⟩ (.ok (.node 31 (textW ws (i + 1)) 0 []) (i + 3))) else
 want ws i ⟨#[97, 114, 114, 97, 121]⟩ (wantK ws (i + 1) 1 (want ws (i + 2) ⟨#[91]⟩ (
  if isW ws (i + 3) ⟨#[63]⟩ then want ws (i + 4) ⟨#[93]⟩ (want ws (i + 5) ⟨#[59]⟩ (.ok (.node 32 (textW ws (i + 1)) (-1) []) (i + 6))) else
  wantK ws (i + 3) 2 (want ws (i + 4) ⟨#[93]⟩ (want ws (i + 5) ⟨#[59]⟩ (.ok (.node 32 (textW ws (i + 1)) (numV (textW ws (i + 3))) []) (i + 6)))))))
def mAll (ws : List W3) (F : Nat) (ds : List T) : Nat → List T → Nat → Res
 | 0, _, i => .no i
 | f + 1, acc, i => if i < ws.length then (mStmt ws F F i).then_ fun x j => mAll ws F ds f (acc ++ [x]) j else .ok (.node 40 nil_ 0 (ds ++ [.node 30 nil_ 0 acc])) i
def mProg (ws : List W3) (F : Nat) : Nat → List T → Nat → Res
 | 0, _, i => .no i
 | f + 1, ds, i => if isW ws i ⟨#[118, 97, 114]⟩ || isW ws i ⟨#[97, 114, 114, 97, 121]⟩ then (mDecl ws i).then_ fun x j => mProg ws F f (ds ++ [x]) j else mAll ws F ds F [] i

/-- Words as they come out of a text. -/
def WsOk (ws : List W3) : Prop := ∀ x ∈ ws, kindI x.s = x.k ∧ x.k ≠ 0
end Go.Proofs.YtjmjmdmnejnlbaaGreatDoor
namespace Go.Proofs.YtjmjmdmnejnlbaaGreatDoor
open Go.RowKit
open Pl

theorem isW_lt {ws : List W3} {i : Nat} {s : ByteArray} (h : isW ws i s = true) : i < ws.length := by
 unfold isW at h
 by_cases q : i < ws.length
 ·exact q
 ·rw [List.getElem?_eq_none (by omega)] at h; cases h
theorem kindW_lt {ws : List W3} {i : Nat} {k : Int} (h : kindW ws i = k) (hk : k ≠ 0) : i < ws.length := by
 unfold kindW at h
 by_cases q : i < ws.length
 ·exact q
 ·rw [List.getElem?_eq_none (by omega)] at h; exact absurd h.symm hk
theorem isW_end {ws : List W3} {i : Nat} (s : ByteArray) (h : ws.length ≤ i) : isW ws i s = false := by
 unfold isW; rw [List.getElem?_eq_none h]
theorem kindW_end {ws : List W3} {i : Nat} (h : ws.length ≤ i) : kindW ws i = 0 := by
 unfold kindW; rw [List.getElem?_eq_none h]
theorem textW_end {ws : List W3} {i : Nat} (h : ws.length ≤ i) : textW ws i = ⟨#[]⟩ := by
 unfold textW; rw [List.getElem?_eq_none h]
theorem isW_text {ws : List W3} {i : Nat} {s : ByteArray} (h : isW ws i s = true) : textW ws i = s := by
 unfold isW at h; unfold textW
 split at h
 ·rename_i x hx
  simpa using h
 ·cases h
theorem isW_of_text {ws : List W3} {i : Nat} {s : ByteArray} (hi : i < ws.length) : isW ws i s = decide (textW ws i = s) := by
 unfold isW textW
 rw [List.getElem?_eq_getElem hi]
theorem isW_kind {ws : List W3} {i : Nat} {s : ByteArray} (hw : WsOk ws) (h : isW ws i s = true) : kindW ws i = kindI s := by
 have hi := isW_lt h
 have ht := isW_text h
 unfold kindW
 unfold textW at ht
 rw [List.getElem?_eq_getElem hi] at ht ⊢
 simp only at ht ⊢
 rw [← ht]
 exact ((hw _ (List.getElem_mem hi)).1).symm
theorem then_ok {r : Res} {f : T → Nat → Res} {t : T} {j : Nat} (h : r.then_ f = .ok t j) : ∃ x i, r = .ok x i ∧ f x i = .ok t j := by
 cases r with
 | ok x i => exact ⟨x, i, rfl, h⟩
 | no p => cases h
theorem want_ok {ws : List W3} {i : Nat} {s : ByteArray} {r : Res} {t : T} {j : Nat} (h : want ws i s r = .ok t j) : isW ws i s = true ∧ r = .ok t j := by
 unfold want at h
 split at h
 ·rename_i q; exact ⟨q, h⟩
 ·cases h
theorem wantK_ok {ws : List W3} {i : Nat} {k : Int} {r : Res} {t : T} {j : Nat} (h : wantK ws i k r = .ok t j) : kindW ws i = k ∧ r = .ok t j := by
 unfold wantK at h
 split at h
 ·rename_i q; exact ⟨q, h⟩
 ·cases h
theorem ok_inj {t t' : T} {j j' : Nat} (h : Res.ok t j = .ok t' j') : t = t' ∧ j = j' := by cases h; exact ⟨rfl, rfl⟩

/-- Each part goes on at least by a word, and not past the end. -/
def Adv (ws : List W3) (f : Nat) : Prop := (∀ i t j, mOne ws f i = .ok t j → i < j ∧ j ≤ ws.length) ∧ (∀ i t j, mTerm ws f i = .ok t j → i < j ∧ j ≤ ws.length) ∧
 (∀ x i t j, i ≤ ws.length → mTermL ws f x i = .ok t j → i ≤ j ∧ j ≤ ws.length) ∧ (∀ i t j, mExpr ws f i = .ok t j → i < j ∧ j ≤ ws.length) ∧ (∀ x i t j, i ≤ ws.length → mExprL ws f x i = .ok t j → i ≤ j ∧ j ≤ ws.length)
theorem adv_one {ws : List W3} {f : Nat} (ih : Adv ws f) {i : Nat} {t : T} {j : Nat} (h : mOne ws (f + 1) i = .ok t j) : i < j ∧ j ≤ ws.length := by
 obtain ⟨a1, a2, a3, a4, a5⟩ := ih
 simp only [mOne] at h
 split at h
 ·obtain ⟨x, k, h1, h2⟩ := then_ok h
  have := a1 _ _ _ h1
  have := (ok_inj h2).2
  omega
 ·split at h
  ·obtain ⟨x, k, h1, h2⟩ := then_ok h
   obtain ⟨h3, h4⟩ := want_ok h2
   have := a4 _ _ _ h1
   have := isW_lt h3
   have := (ok_inj h4).2
   omega
  ·split at h
   ·obtain ⟨g1, h⟩ := want_ok h
    obtain ⟨g2, h⟩ := wantK_ok h
    obtain ⟨g3, h⟩ := want_ok h
    have := isW_lt g3
    have := (ok_inj h).2
    omega
   ·split at h
    ·rename_i g
     have := kindW_lt g (by decide)
     have := (ok_inj h).2
     omega
    ·obtain ⟨g, h⟩ := wantK_ok h
     have := kindW_lt g (by decide)
     split at h
     ·obtain ⟨x, k, h1, h2⟩ := then_ok h
      obtain ⟨h3, h4⟩ := want_ok h2
      have := a4 _ _ _ h1
      have := isW_lt h3
      have := (ok_inj h4).2
      omega
     ·have := (ok_inj h).2
      omega
theorem adv (ws : List W3) (f : Nat) : Adv ws f := by
 induction f with
 | zero => exact ⟨fun _ _ _ h => by simp [mOne] at h, fun _ _ _ h => by simp [mTerm] at h, fun _ _ _ _ _ h => by simp [mTermL] at h, fun _ _ _ h => by simp [mExpr] at h, fun _ _ _ _ _ h => by simp [mExprL] at h⟩
 | succ f ih =>
   have ih' := ih
   obtain ⟨a1, a2, a3, a4, a5⟩ := ih
   refine ⟨fun i t j h => adv_one ih' h, fun i t j h => ?_, fun x i t j hi h => ?_, fun i t j h => ?_, fun x i t j hi h => ?_⟩
   ·simp only [mTerm] at h
    obtain ⟨x, k, h1, h2⟩ := then_ok h
    have q := a1 _ _ _ h1
    have := a3 _ _ _ _ q.2 h2
    omega
   ·simp only [mTermL] at h
    split at h
    ·obtain ⟨y, k, h1, h2⟩ := then_ok h
     have q := a1 _ _ _ h1
     have := a3 _ _ _ _ q.2 h2
     omega
    ·have := (ok_inj h).2
     omega
   ·simp only [mExpr] at h
    obtain ⟨x, k, h1, h2⟩ := then_ok h
    have q := a2 _ _ _ h1
    have := a5 _ _ _ _ q.2 h2
    omega
   ·simp only [mExprL] at h
    split at h
    ·obtain ⟨y, k, h1, h2⟩ := then_ok h
     have q := a2 _ _ _ h1
     have := a5 _ _ _ _ q.2 h2
     omega
    ·split at h
     ·obtain ⟨y, k, h1, h2⟩ := then_ok h
      have q := a2 _ _ _ h1
      have := a5 _ _ _ _ q.2 h2
      omega
     ·have := (ok_inj h).2
      omega
theorem adv_cond {ws : List W3} {f i : Nat} {t : T} {j : Nat} (h : mCond ws f i = .ok t j) : i < j ∧ j ≤ ws.length := by
 unfold mCond at h
 obtain ⟨x, k, h1, h2⟩ := then_ok h
 have q := (adv ws f).2.2.2.1 _ _ _ h1
 split at h2
 ·cases h2
 ·obtain ⟨y, k2, h3, h4⟩ := then_ok h2
  have q2 := (adv ws f).2.2.2.1 _ _ _ h3
  have := (ok_inj h4).2
  omega
theorem adv_short {ws : List W3} {f i : Nat} {t : T} {j : Nat} (h : mShort ws f i = .ok t j) : i < j ∧ j ≤ ws.length := by
 unfold mShort at h
 have ax := (adv ws f).2.2.2.1
 split at h
 ·obtain ⟨g, h⟩ := wantK_ok h
  have := kindW_lt g (by decide)
  have := (ok_inj h).2
  omega
 ·split at h
  ·obtain ⟨x, k, h1, h2⟩ := then_ok h
   have := adv_cond h1
   have := (ok_inj h2).2
   omega
  ·split at h
   ·rename_i g
    have := isW_lt g
    have := (ok_inj h).2
    omega
   ·split at h
    ·rename_i g
     have := isW_lt g
     have := (ok_inj h).2
     omega
    ·obtain ⟨g, h⟩ := wantK_ok h
     split at h
     ·obtain ⟨x, k, h1, h2⟩ := then_ok h
      obtain ⟨h3, h4⟩ := want_ok h2
      obtain ⟨h5, h6⟩ := want_ok h4
      obtain ⟨y, k2, h7, h8⟩ := then_ok h6
      have := ax _ _ _ h1
      have := ax _ _ _ h7
      have := (ok_inj h8).2
      omega
     ·obtain ⟨h5, h6⟩ := want_ok h
      obtain ⟨y, k2, h7, h8⟩ := then_ok h6
      have := ax _ _ _ h7
      have := (ok_inj h8).2
      omega
def AdvS (ws : List W3) (F f : Nat) : Prop := (∀ i t j, mStmt ws F f i = .ok t j → i < j ∧ j ≤ ws.length) ∧ (∀ i t j, mBlock ws F f i = .ok t j → i < j ∧ j ≤ ws.length) ∧ (∀ acc i t j, mList ws F f acc i = .ok t j → i < j ∧ j ≤ ws.length)
theorem advS (ws : List W3) (F f : Nat) : AdvS ws F f := by
 induction f with
 | zero => exact ⟨fun _ _ _ h => by simp [mStmt] at h, fun _ _ _ h => by simp [mBlock] at h, fun _ _ _ _ h => by simp [mList] at h⟩
 | succ f ih =>
   obtain ⟨a1, a2, a3⟩ := ih
   have ax := (adv ws F).2.2.2.1
   refine ⟨fun i t j h => ?_, fun i t j h => ?_, fun acc i t j h => ?_⟩
   ·simp only [mStmt] at h
    split at h
    ·obtain ⟨x, k, h1, h2⟩ := then_ok h
     obtain ⟨y, k2, h3, h4⟩ := then_ok h2
     have := adv_cond h1
     have := a2 _ _ _ h3
     split at h4
     ·obtain ⟨z, k3, h5, h6⟩ := then_ok h4
      have := a2 _ _ _ h5
      have := (ok_inj h6).2
      omega
     ·have := (ok_inj h4).2
      omega
    ·split at h
     ·obtain ⟨x, k, h1, h2⟩ := then_ok h
      obtain ⟨y, k2, h3, h4⟩ := then_ok h2
      have := adv_cond h1
      have := a2 _ _ _ h3
      have := (ok_inj h4).2
      omega
     ·split at h
      ·obtain ⟨_, h⟩ := wantK_ok h
       obtain ⟨_, h⟩ := want_ok h
       obtain ⟨x, k, h1, h2⟩ := then_ok h
       obtain ⟨_, h2⟩ := want_ok h2
       obtain ⟨y, k2, h3, h4⟩ := then_ok h2
       obtain ⟨z, k3, h5, h6⟩ := then_ok h4
       have := ax _ _ _ h1
       have := ax _ _ _ h3
       have := a2 _ _ _ h5
       have := (ok_inj h6).2
       omega
      ·obtain ⟨x, k, h1, h2⟩ := then_ok h
       obtain ⟨h3, h4⟩ := want_ok h2
       have := adv_short h1
       have := isW_lt h3
       have := (ok_inj h4).2
       omega
   ·simp only [mBlock] at h
    obtain ⟨g, h⟩ := want_ok h
    have := a3 _ _ _ _ h
    omega
   ·simp only [mList] at h
    split at h
    ·rename_i g
     have := isW_lt g
     have := (ok_inj h).2
     omega
    ·obtain ⟨x, k, h1, h2⟩ := then_ok h
     have := a1 _ _ _ h1
     have := a3 _ _ _ _ h2
     omega
theorem adv_decl {ws : List W3} {i : Nat} {t : T} {j : Nat} (h : mDecl ws i = .ok t j) : i < j ∧ j ≤ ws.length := by
 unfold mDecl at h
 split at h
 ·obtain ⟨_, h⟩ := wantK_ok h
  obtain ⟨g, h⟩ := want_ok h
  have := isW_lt g
  have := (ok_inj h).2
  omega
 ·obtain ⟨_, h⟩ := want_ok h
  obtain ⟨_, h⟩ := wantK_ok h
  obtain ⟨_, h⟩ := want_ok h
  split at h
  ·obtain ⟨_, h⟩ := want_ok h
   obtain ⟨g, h⟩ := want_ok h
   have := isW_lt g
   have := (ok_inj h).2
   omega
  ·obtain ⟨_, h⟩ := wantK_ok h
   obtain ⟨_, h⟩ := want_ok h
   obtain ⟨g, h⟩ := want_ok h
   have := isW_lt g
   have := (ok_inj h).2
   omega
end Go.Proofs.YtjmjmdmnejnlbaaGreatDoor
namespace Go.Proofs.YtjmjmdmnejnlbaaGreatDoor
open Go.RowKit

/-- A tree with the place and the room of each list. -/
inductive A where
 | node (k : Int) (s : ByteArray) (m : Int) (a : Option Addr) (c : Nat) (kids : List A)
theorem A.induct {P : A → Prop} (h : ∀ k s m a c kk, (∀ x ∈ kk, P x) → P (.node k s m a c kk)) : ∀ x, P x
 | .node k s m a c kk => h k s m a c kk fun x _ => A.induct h x
mutual
def A.erase : A → T
 | .node k s m _ _ kk => .node k s m (erases kk)
def erases : List A → List T
 | [] => []
 | x :: r => x.erase :: erases r
end
def A.val : A → Value
 | .node k s m a c kk => .agg #[.int .i64 k, .string s, .int .i64 m, .slice a kk.length c]
def A.cells : A → List Value
 | .node k s m a c kk => [.int .i64 k, .string s, .int .i64 m, .slice a kk.length c]
def cellsL (kk : List A) : List Value := kk.flatMap A.cells
def blockOf (a : Option Addr) : List Nat := match a with
 | some p => [p.block]
 | none => []
mutual
def A.foot : A → List Nat
 | .node _ _ _ a _ kk => (if kk.length = 0 then [] else blockOf a) ++ feet kk
def feet : List A → List Nat
 | [] => []
 | x :: r => x.foot ++ feet r
end
/-- A list lies in a block of its own. -/
def Bed (w : World) (a : Option Addr) (kk : List A) : Prop := kk = [] ∨ ∃ b cs, a = some ⟨b, 0, none⟩ ∧ w.heap[b]? = some (.cells cs 26 (0, 0)) ∧ ∀ (i : Nat) (v : Value), (cellsL kk)[i]? = some v → cs[i]? = some v
mutual
def Sits (w : World) : A → Prop
 | .node _ s _ a _ kk => s.size ≤ maxLen ∧ kk.length ≤ maxLen ∧ Bed w a kk ∧ SitsL w kk
def SitsL (w : World) : List A → Prop
 | [] => True
 | x :: r => Sits w x ∧ SitsL w r
end
theorem erases_len (kk : List A) : (erases kk).length = kk.length := by
 induction kk with
 | nil => rfl
 | cons x r ih => simp only [erases, List.length_cons, ih]
theorem erases_append (p q : List A) : erases (p ++ q) = erases p ++ erases q := by
 induction p with
 | nil => rfl
 | cons x r ih => simp only [List.cons_append, erases, ih]
theorem feet_append (p q : List A) : feet (p ++ q) = feet p ++ feet q := by
 induction p with
 | nil => rfl
 | cons x r ih => simp only [List.cons_append, feet, ih, List.append_assoc]
theorem sitsL_iff (w : World) (kk : List A) : SitsL w kk ↔ ∀ x ∈ kk, Sits w x := by
 induction kk with
 | nil => simp [SitsL]
 | cons x r ih => simp only [SitsL, ih, List.mem_cons, forall_eq_or_imp]
theorem feet_mem {kk : List A} {b : Nat} : b ∈ feet kk ↔ ∃ x ∈ kk, b ∈ x.foot := by
 induction kk with
 | nil => simp [feet]
 | cons x r ih => simp only [feet, List.mem_append, ih, List.mem_cons, exists_eq_or_imp]
theorem cellsL_len (kk : List A) : (cellsL kk).length = kk.length * 4 := by
 unfold cellsL
 induction kk with
 | nil => rfl
 | cons x r ih =>
   obtain ⟨k, s, m, a, c, q⟩ := x
   simp only [List.flatMap_cons, List.length_append, List.length_cons, ih, A.cells, List.length_nil]
   omega
theorem cellsL_append (p q : List A) : cellsL (p ++ q) = cellsL p ++ cellsL q := by simp [cellsL]
theorem cellsL_get {kk : List A} {i : Nat} {k m : Int} {s : ByteArray} {a : Option Addr} {c : Nat} {q : List A} (h : kk[i]? = some (.node k s m a c q)) :
    (cellsL kk)[i * 4]? = some (.int .i64 k) ∧ (cellsL kk)[i * 4 + 1]? = some (.string s) ∧ (cellsL kk)[i * 4 + 2]? = some (.int .i64 m) ∧ (cellsL kk)[i * 4 + 3]? = some (.slice a q.length c) := by
 induction kk generalizing i with
 | nil => simp at h
 | cons x r ih =>
   cases i with
   | zero =>
     simp at h
     subst h
     simp [cellsL, A.cells]
   | succ i =>
     simp at h
     have e : cellsL (x :: r) = x.cells ++ cellsL r := by simp [cellsL]
     have l : x.cells.length = 4 := by cases x; rfl
     obtain ⟨h0, h1, h2, h3⟩ := ih h
     rw [e]
     refine ⟨?_, ?_, ?_, ?_⟩ <;> rw [List.getElem?_append_right (by omega), l]
     ·rw [show (i + 1) * 4 - 4 = i * 4 by omega]; exact h0
     ·rw [show (i + 1) * 4 + 1 - 4 = i * 4 + 1 by omega]; exact h1
     ·rw [show (i + 1) * 4 + 2 - 4 = i * 4 + 2 by omega]; exact h2
     ·rw [show (i + 1) * 4 + 3 - 4 = i * 4 + 3 by omega]; exact h3

theorem Bed.stay {w w' : World} {a : Option Addr} {kk : List A} (h : Bed w a kk) (hs : ∀ b ∈ (if kk.length = 0 then [] else blockOf a), w'.heap[b]? = w.heap[b]?) : Bed w' a kk := by
 rcases h with h | ⟨b, cs, rfl, h1, h2⟩
 ·exact .inl h
 ·by_cases e : kk.length = 0
  ·exact .inl (List.eq_nil_of_length_eq_zero e)
  ·rw [if_neg e] at hs
   exact .inr ⟨b, cs, rfl, (hs b (by simp [blockOf])).trans h1, h2⟩
theorem Sits.stay {w w' : World} (x : A) : (∀ b ∈ x.foot, w'.heap[b]? = w.heap[b]?) → Sits w x → Sits w' x := by
 refine A.induct (P := fun x => (∀ b ∈ x.foot, w'.heap[b]? = w.heap[b]?) → Sits w x → Sits w' x) ?_ x
 intro k s m a c kk ih hs h
 simp only [Sits] at h ⊢
 simp only [A.foot, List.mem_append] at hs
 refine ⟨h.1, h.2.1, h.2.2.1.stay fun b hb => hs b (.inl hb), (sitsL_iff _ _).2 fun x hx => ih x hx (fun b hb => hs b (.inr (feet_mem.2 ⟨x, hx, hb⟩))) ((sitsL_iff _ _).1 h.2.2.2 x hx)⟩
theorem SitsL.stay {w w' : World} {kk : List A} (h : SitsL w kk) (hs : ∀ b ∈ feet kk, w'.heap[b]? = w.heap[b]?) : SitsL w' kk :=
 (sitsL_iff _ _).2 fun x hx => Sits.stay x (fun b hb => hs b (feet_mem.2 ⟨x, hx, hb⟩)) ((sitsL_iff _ _).1 h x hx)
/-- What a tree lies in is there. -/
theorem Sits.lt {w : World} (x : A) : Sits w x → ∀ b ∈ x.foot, b < w.heap.size := by
 refine A.induct (P := fun x => Sits w x → ∀ b ∈ x.foot, b < w.heap.size) ?_ x
 intro k s m a c kk ih h b hb
 simp only [Sits] at h
 simp only [A.foot, List.mem_append] at hb
 rcases hb with hb | hb
 ·rcases h.2.2.1 with h1 | ⟨b', cs, rfl, h1, _⟩
  ·subst h1; simp at hb
  ·split at hb
   ·cases hb
   ·simp [blockOf] at hb
    subst hb
    exact (Array.getElem?_eq_some_iff.1 h1).1
 ·obtain ⟨y, hy, hb⟩ := feet_mem.1 hb
  exact ih y hy ((sitsL_iff _ _).1 h.2.2.2 y hy) b hb
theorem SitsL.lt {w : World} {kk : List A} (h : SitsL w kk) : ∀ b ∈ feet kk, b < w.heap.size := fun b hb => by
 obtain ⟨y, hy, hb⟩ := feet_mem.1 hb
 exact Sits.lt y ((sitsL_iff _ _).1 h y hy) b hb
/-- A new tree: no block twice, none of them old. -/
def New (n : Nat) (x : A) : Prop := x.foot.Nodup ∧ ∀ b ∈ x.foot, n ≤ b
def NewL (n : Nat) (kk : List A) : Prop := (feet kk).Nodup ∧ ∀ b ∈ feet kk, n ≤ b
theorem New.mono {n n' : Nat} {x : A} (h : New n x) (hn : n' ≤ n) : New n' x := ⟨h.1, fun b hb => Nat.le_trans hn (h.2 b hb)⟩
theorem NewL.mono {n n' : Nat} {x : List A} (h : NewL n x) (hn : n' ≤ n) : NewL n' x := ⟨h.1, fun b hb => Nat.le_trans hn (h.2 b hb)⟩

theorem erases_get {kk : List A} {i : Nat} {t : T} (h : (erases kk)[i]? = some t) : ∃ x, kk[i]? = some x ∧ x.erase = t := by
 induction kk generalizing i with
 | nil => simp [erases] at h
 | cons x r ih =>
   cases i with
   | zero => simp [erases] at h; exact ⟨x, rfl, h⟩
   | succ i => simp [erases] at h; obtain ⟨y, h1, h2⟩ := ih h; exact ⟨y, by simpa using h1, h2⟩
theorem cell_in {w : World} {b i E : Nat} {cs : Array Value} {v : Value} (h : w.heap[b]? = some (.cells cs E (0, 0))) (hv : cs[i]? = some v) : w.cell? ⟨b, i, none⟩ = some v := by
 rw [Lib.cell_of_heap h]; exact hv
def A.at : A → Option Addr
 | .node _ _ _ a _ _ => a
def A.kids : A → List A
 | .node _ _ _ _ _ kk => kk
theorem Sits.lies {w : World} {lo : Nat} (x : A) : Sits w x → (∀ b ∈ x.foot, lo ≤ b) → Kids w lo x.at (erases x.kids) := by
 refine A.induct (P := fun x => Sits w x → (∀ b ∈ x.foot, lo ≤ b) → Kids w lo x.at (erases x.kids)) ?_ x
 intro k s m a c kk ih h hlo
 simp only [Sits] at h
 simp only [A.foot, List.mem_append] at hlo
 obtain ⟨hs, hn, hb, hl⟩ := h
 rcases hb with rfl | ⟨b, cs, rfl, h1, h2⟩
 ·exact .inl rfl
 ·by_cases e : kk.length = 0
  ·have : kk = [] := List.eq_nil_of_length_eq_zero e
   subst this
   exact .inl rfl
  ·rw [if_neg e] at hlo
   refine .inr ⟨b, 0, rfl, hlo b (.inl (by simp [blockOf])), LiesL.of fun i t ht => ?_⟩
   obtain ⟨y, hy, rfl⟩ := erases_get ht
   have hm := List.mem_of_getElem? hy
   have hsy := (sitsL_iff _ _).1 hl y hm
   have hk := ih y hm hsy (fun b hb => hlo b (.inr (feet_mem.2 ⟨y, hm, hb⟩)))
   obtain ⟨k', s', m', a', c', q⟩ := y
   obtain ⟨g0, g1, g2, g3⟩ := cellsL_get hy
   simp only [Sits] at hsy
   simp only [A.erase]
   unfold Lies
   rw [Nat.zero_add]
   refine ⟨cell_in h1 (h2 _ _ g0), cell_in h1 (h2 _ _ g1), cell_in h1 (h2 _ _ g2), hsy.1, by rw [erases_len]; exact hsy.2.1, a', c', by rw [erases_len]; exact cell_in h1 (h2 _ _ g3), hk⟩
end Go.Proofs.YtjmjmdmnejnlbaaGreatDoor
