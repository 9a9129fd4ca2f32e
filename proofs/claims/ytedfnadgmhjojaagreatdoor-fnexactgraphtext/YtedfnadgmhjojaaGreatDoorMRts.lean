/-
  PLAIN FACTS: the text of lines is read as their words.
  PLAIN FACTS: the words of statements, blocks, declarations and programs are read as them.
-/
import Derived.Test.YtedfnadgmhjojaaGreatDoorMLns
import Derived.Test.YtedfnadgmhjojaaGreatDoorMSfor
namespace Go.Proofs.YtedfnadgmhjojaaGreatDoor
open Go.RowKit
open Pl

def Blk (pad : ByteArray) : Prop := ∀ c ∈ pad.data.toList, c.toNat = 32 ∨ c.toNat = 10
theorem blanks_chunk (l : List UInt8) (h : ∀ c ∈ l, c.toNat = 32 ∨ c.toNat = 10) (F : List UInt8 → Prop) : Chunk l [] F := by
 induction l with
 | nil => exact Chunk.nil F
 | cons c r ih => exact (Chunk.blank (h c (by simp)) (fun _ => True)).app (ih fun d hd => h d (by simp [hd])) (fun _ _ => trivial)
theorem pad_chunk {pad : ByteArray} (h : Blk pad) (F : List UInt8 → Prop) : Chunk pad.data.toList [] F := blanks_chunk _ h F
theorem Blk.more {pad : ByteArray} (h : Blk pad) : Blk (pad ++ ⟨#[32, 32]⟩) := fun c hc => by
 rw [toL_app, List.mem_append] at hc
 rcases hc with hc | hc
 ·exact h c hc
 ·simp at hc; subst hc; exact .inl rfl
theorem gap32 (r : List UInt8) : Gap (32 :: r) := Gap.at r (by decide)
theorem gap59 (r : List UInt8) : Gap (59 :: r) := Gap.at r (by decide)
theorem gap91 (r : List UInt8) : Gap (91 :: r) := Gap.at r (by decide)
theorem gap93 (r : List UInt8) : Gap (93 :: r) := Gap.at r (by decide)
/-- A word and a blank. -/
theorem kw {s : ByteArray} (hk : kindI s ≠ 0) (F : List UInt8 → Prop) : Chunk (s.data.toList ++ [32]) [s] F := (Chunk.any hk).app (Chunk.blank (.inl rfl) F) (fun suf _ => gap32 suf)
theorem key_kind {s : ByteArray} (h : keys.contains s.data.toList = true) : kindI s ≠ 0 := by rw [key_not_name (ky h)]; decide
theorem c_semi (F : List UInt8 → Prop) : Chunk [59, 10] [⟨#[59]⟩] F := (Chunk.sign (s := ⟨#[59]⟩) (sg rfl)).app (Chunk.blank (c := 10) (.inr rfl) F) (fun suf _ => .inr ⟨10, suf, rfl, by decide⟩)
theorem c_close (F : List UInt8 → Prop) : Chunk [125, 10] [⟨#[125]⟩] F := (Chunk.sign (s := ⟨#[125]⟩) (sg rfl)).app (Chunk.blank (c := 10) (.inr rfl) F) (fun suf _ => .inr ⟨10, suf, rfl, by decide⟩)
theorem c_open (F : List UInt8 → Prop) : Chunk [32, 123, 10] [⟨#[123]⟩] F :=
 (Chunk.blank (c := 32) (.inl rfl) (fun _ => True)).app ((Chunk.sign (s := ⟨#[123]⟩) (sg rfl)).app (Chunk.blank (c := 10) (.inr rfl) F) (fun suf _ => .inr ⟨10, suf, rfl, by decide⟩)) (fun _ _ => trivial)
theorem c_mid {s : ByteArray} (hk : kindI s ≠ 0) (F : List UInt8 → Prop) : Chunk (32 :: (s.data.toList ++ [32])) [s] F := (Chunk.blank (c := 32) (.inl rfl) (fun _ => True)).app (kw hk F) (fun _ _ => trivial)
theorem c_sub (F : List UInt8 → Prop) : Chunk [93, 59, 10] [⟨#[93]⟩, ⟨#[59]⟩] F := (Chunk.sign (s := ⟨#[93]⟩) (sg rfl)).app (c_semi F) (fun suf _ => .inr ⟨59, _, rfl, by decide⟩)
theorem c_put (F : List UInt8 → Prop) : Chunk [93, 32, 61, 32] [⟨#[93]⟩, ⟨#[61]⟩] F := (Chunk.sign (s := ⟨#[93]⟩) (sg rfl)).app (sp3 (c := 61) (sg rfl) F) (fun suf _ => .inr ⟨32, _, rfl, by decide⟩)
theorem c_else (F : List UInt8 → Prop) : Chunk [125, 32, 101, 108, 115, 101, 32, 123, 10] [⟨#[125]⟩, ⟨#[101, 108, 115, 101]⟩, ⟨#[123]⟩] F := by
 have a := (Chunk.sign (s := ⟨#[125]⟩) (sg rfl)).app (c_mid (s := ⟨#[101, 108, 115, 101]⟩) (key_kind rfl) (fun _ => True)) (fun suf _ => .inr ⟨32, _, rfl, by decide⟩)
 exact a.app ((Chunk.sign (s := ⟨#[123]⟩) (sg rfl)).app (Chunk.blank (c := 10) (.inr rfl) F) (fun suf _ => .inr ⟨10, suf, rfl, by decide⟩)) (fun _ _ => trivial)
theorem num_word {m : Int} (h0 : -1 ≤ m) (h1 : m ≤ 1000000) : kindI (numS m) ≠ 0 ∧ Hd (numS m).data.toList := by
 unfold numS
 split
 ·obtain ⟨d1, _⟩ := dec_num (n := m.toNat) (by omega)
  exact ⟨by rw [num_kind d1]; decide, hd_num d1⟩
 ·refine ⟨?_, ⟨63, [], rfl, by decide⟩⟩
  have h1 : signB ⟨#[63]⟩ = true := sg rfl
  unfold kindI
  rw [sign_not_key h1]
  simp only [Bool.false_eq_true, if_false, h1, if_true]
  split
  ·decide
  ·split <;> decide
theorem name_word {s : ByteArray} (h : nameB s = true) : kindI s ≠ 0 := by rw [name_kind h]; decide
theorem lnS_eq (k : Int) (s : ByteArray) (m : Int) (kk : List T) (pad : ByteArray) : lnS (.node k s m kk) pad = layL k s m pad (exSs kk) (lnSs kk (pad ++ ⟨#[32, 32]⟩)) (lnSs kk pad) ((kk[2]?.map kidsEmpty).getD true) := by simp only [lnS]
theorem tL_eq (k : Int) (s : ByteArray) (m : Int) (kk : List T) : tL (.node k s m kk) = layK k s m (tEs kk) (tLs kk) ((kk[2]?.map kidsEmpty).getD true) := by simp only [tL]
theorem exSs1 (x : T) : exSs [x] = [(kindT x, exS x)] := by simp only [exSs]
theorem exSs2 (x y : T) : exSs [x, y] = [(kindT x, exS x), (kindT y, exS y)] := by simp only [exSs]
theorem exSs3 (x y z : T) : exSs [x, y, z] = [(kindT x, exS x), (kindT y, exS y), (kindT z, exS z)] := by simp only [exSs]
theorem tEs1 (x : T) : tEs [x] = [(kindT x, tE x)] := by simp only [tEs]
theorem tEs2 (x y : T) : tEs [x, y] = [(kindT x, tE x), (kindT y, tE y)] := by simp only [tEs]
theorem tEs3 (x y z : T) : tEs [x, y, z] = [(kindT x, tE x), (kindT y, tE y), (kindT z, tE z)] := by simp only [tEs]
theorem lnSs2 (x y : T) (p : ByteArray) : lnSs [x, y] p = [lnS x p, lnS y p] := by simp only [lnSs]
theorem lnSs3 (x y z : T) (p : ByteArray) : lnSs [x, y, z] p = [lnS x p, lnS y p, lnS z p] := by simp only [lnSs]
theorem tLs2 (x y : T) : tLs [x, y] = [tL x, tL y] := by simp only [tLs]
theorem tLs3 (x y z : T) : tLs [x, y, z] = [tL x, tL y, tL z] := by simp only [tLs]
/-- Lines one behind another. -/
theorem list_chunk {pad : ByteArray} (kk : List T) (h : ∀ t ∈ kk, ∀ F, Chunk (lnS t pad).data.toList (tL t) F) (F : List UInt8 → Prop) : Chunk (catS (lnSs kk pad)).data.toList (tLs kk).flatten F := by
 induction kk with
 | nil => simp only [lnSs, tLs, catS, List.flatten_nil]; exact Chunk.nil F
 | cons t r ih =>
   simp only [lnSs, tLs, catS, List.flatten_cons]
   rw [toL_app]
   exact (h t (by simp) (fun _ => True)).app (ih fun x hx => h x (by simp [hx])) (fun _ _ => trivial)
theorem decl_chunk (t : T) (h : GoodD t) {pad : ByteArray} (hp : Blk pad) (F : List UInt8 → Prop) : Chunk (lnS t pad).data.toList (tL t) F := by
 obtain ⟨k, s, m, kk⟩ := t
 cases decl_shape h with
 | var h hk hn hm =>
   subst h hk hm
   rw [lnS_eq, tL_eq]
   show Chunk (ByteArray.data (pad ++ ⟨#[118, 97, 114, 32]⟩ ++ s ++ ⟨#[59, 10]⟩)).toList ([] ++ [⟨#[118, 97, 114]⟩] ++ [s] ++ [⟨#[59]⟩]) F
   rw [toL_app, toL_app, toL_app]
   exact (((pad_chunk hp (fun _ => True)).app (kw (s := ⟨#[118, 97, 114]⟩) (key_kind rfl) (fun _ => True)) (fun _ _ => trivial)).app (Chunk.any (name_word hn)) (fun _ _ => trivial)).app (c_semi F) (fun suf _ => gap59 _)
 | arr h hk hn h0 h1 =>
   subst h hk
   obtain ⟨n1, n2⟩ := num_word h0 h1
   rw [lnS_eq, tL_eq]
   show Chunk (ByteArray.data (pad ++ ⟨#[97, 114, 114, 97, 121, 32]⟩ ++ s ++ ⟨#[91]⟩ ++ numS m ++ ⟨#[93, 59, 10]⟩)).toList ([] ++ [⟨#[97, 114, 114, 97, 121]⟩] ++ [s] ++ [⟨#[91]⟩] ++ [numS m] ++ [⟨#[93]⟩, ⟨#[59]⟩]) F
   rw [toL_app, toL_app, toL_app, toL_app, toL_app]
   exact (((((pad_chunk hp (fun _ => True)).app (kw (s := ⟨#[97, 114, 114, 97, 121]⟩) (key_kind rfl) (fun _ => True)) (fun _ _ => trivial)).app (Chunk.any (name_word hn)) (fun _ _ => trivial)).app (Chunk.sign (s := ⟨#[91]⟩) (sg rfl)) (fun suf _ => gap91 _)).app (Chunk.any n1) (fun suf _ => n2.noEq suf)).app (c_sub F) (fun suf _ => gap93 _)
/-- The lines of a statement or of a block. -/
theorem lines_chunk (t : T) : (GoodS t ∨ GoodB t) → ∀ {pad : ByteArray}, Blk pad → ∀ F, Chunk (lnS t pad).data.toList (tL t) F := by
 refine T.induct (P := fun t => (GoodS t ∨ GoodB t) → ∀ {pad : ByteArray}, Blk pad → ∀ F, Chunk (lnS t pad).data.toList (tL t) F) ?_ t
 intro k s m kk ih hg pad hp F
 rcases hg with hg | hg
 ·have pd := pad_chunk hp (fun _ => True)
  have go : ∀ {l : List UInt8} {q : List ByteArray} {G : List UInt8 → Prop}, Chunk l q G → Chunk (pad.data.toList ++ l) ([] ++ q) G := fun h => pd.app h (fun _ _ => trivial)
  cases stmt_shape hg with
  | set h x hk hx hn hm =>
    subst h hk hm
    obtain ⟨c1, c2⟩ := expr_chunk x hx.good
    rw [lnS_eq, tL_eq, exSs1, tEs1]
    show Chunk (ByteArray.data (pad ++ s ++ ⟨#[32, 61, 32]⟩ ++ exS x ++ ⟨#[59, 10]⟩)).toList ([] ++ [s] ++ [⟨#[61]⟩] ++ tE x ++ [⟨#[59]⟩]) F
    rw [toL_app, toL_app, toL_app, toL_app]
    exact (((go (Chunk.any (name_word hn))).app (sp3 (c := 61) (sg rfl) (fun _ => True)) (fun suf _ => gap32 _)).app c1 (fun _ _ => trivial)).app (c_semi F) (fun suf _ => gap59 _)
  | put h x y hk hx hy hn hm =>
    subst h hk hm
    obtain ⟨c1, c2⟩ := expr_chunk x hx.good
    obtain ⟨d1, d2⟩ := expr_chunk y hy.good
    rw [lnS_eq, tL_eq, exSs2, tEs2]
    show Chunk (ByteArray.data (pad ++ s ++ ⟨#[91]⟩ ++ exS x ++ ⟨#[93, 32, 61, 32]⟩ ++ exS y ++ ⟨#[59, 10]⟩)).toList ([] ++ [s] ++ [⟨#[91]⟩] ++ tE x ++ [⟨#[93]⟩, ⟨#[61]⟩] ++ tE y ++ [⟨#[59]⟩]) F
    rw [toL_app, toL_app, toL_app, toL_app, toL_app, toL_app]
    exact (((((go (Chunk.any (name_word hn))).app (Chunk.sign (s := ⟨#[91]⟩) (sg rfl)) (fun suf _ => gap91 _)).app c1 (fun suf _ => c2.noEq suf)).app (c_put (fun _ => True)) (fun suf _ => gap93 _)).app d1 (fun _ _ => trivial)).app (c_semi F) (fun suf _ => gap59 _)
  | read h hk hn hm =>
    subst h hk hm
    rw [lnS_eq, tL_eq]
    show Chunk (ByteArray.data (pad ++ ⟨#[114, 101, 97, 100, 32]⟩ ++ s ++ ⟨#[59, 10]⟩)).toList ([] ++ [⟨#[114, 101, 97, 100]⟩] ++ [s] ++ [⟨#[59]⟩]) F
    rw [toL_app, toL_app, toL_app]
    exact ((go (kw (s := ⟨#[114, 101, 97, 100]⟩) (key_kind rfl) (fun _ => True))).app (Chunk.any (name_word hn)) (fun _ _ => trivial)).app (c_semi F) (fun suf _ => gap59 _)
  | chec h c hk hc hs hm =>
    subst h hk hs hm
    obtain ⟨c1, c2⟩ := expr_chunk c hc.good
    rw [lnS_eq, tL_eq, exSs1, tEs1]
    show Chunk (ByteArray.data (pad ++ ⟨#[99, 104, 101, 99, 107, 32]⟩ ++ exS c ++ ⟨#[59, 10]⟩)).toList ([] ++ [⟨#[99, 104, 101, 99, 107]⟩] ++ tE c ++ [⟨#[59]⟩]) F
    rw [toL_app, toL_app, toL_app]
    exact ((go (kw (s := ⟨#[99, 104, 101, 99, 107]⟩) (key_kind rfl) (fun _ => True))).app c1 (fun _ _ => trivial)).app (c_semi F) (fun suf _ => gap59 _)
  | skip h hk hs hm =>
    subst h hk hs hm
    rw [lnS_eq, tL_eq]
    show Chunk (ByteArray.data (pad ++ ⟨#[115, 107, 105, 112, 59, 10]⟩)).toList ([] ++ ([⟨#[115, 107, 105, 112]⟩] ++ [⟨#[59]⟩])) F
    rw [toL_app]
    exact go ((Chunk.any (s := ⟨#[115, 107, 105, 112]⟩) (key_kind rfl)).app (c_semi F) (fun suf _ => gap59 _))
  | stop h hk hs hm =>
    subst h hk hs hm
    rw [lnS_eq, tL_eq]
    show Chunk (ByteArray.data (pad ++ ⟨#[115, 116, 111, 112, 59, 10]⟩)).toList ([] ++ ([⟨#[115, 116, 111, 112]⟩] ++ [⟨#[59]⟩])) F
    rw [toL_app]
    exact go ((Chunk.any (s := ⟨#[115, 116, 111, 112]⟩) (key_kind rfl)).app (c_semi F) (fun suf _ => gap59 _))
  | whil h c b hk hc hb hs hm =>
    subst h hk hs hm
    obtain ⟨c1, c2⟩ := expr_chunk c hc.good
    have b1 := ih b (by simp) (.inr hb) hp.more (fun _ => True)
    rw [lnS_eq, tL_eq, exSs2, tEs2, lnSs2, tLs2]
    show Chunk (ByteArray.data (pad ++ ⟨#[119, 104, 105, 108, 101, 32]⟩ ++ exS c ++ ⟨#[32, 123, 10]⟩ ++ lnS b (pad ++ ⟨#[32, 32]⟩) ++ pad ++ ⟨#[125, 10]⟩)).toList ([] ++ [⟨#[119, 104, 105, 108, 101]⟩] ++ tE c ++ [⟨#[123]⟩] ++ tL b ++ [⟨#[125]⟩]) F
    rw [toL_app, toL_app, toL_app, toL_app, toL_app, toL_app]
    have := (((((go (kw (s := ⟨#[119, 104, 105, 108, 101]⟩) (key_kind rfl) (fun _ => True))).app c1 (fun _ _ => trivial)).app (c_open (fun _ => True)) (fun suf _ => gap32 _)).app b1 (fun _ _ => trivial)).app (pad_chunk hp (fun _ => True)) (fun _ _ => trivial)).app (c_close F) (fun _ _ => trivial)
    simp only [List.append_nil] at this
    exact this
  | fors h x y b hk hx hy hb hn hm =>
    subst h hk hm
    obtain ⟨c1, c2⟩ := expr_chunk x hx.good
    obtain ⟨d1, d2⟩ := expr_chunk y hy.good
    have b1 := ih b (by simp) (.inr hb) hp.more (fun _ => True)
    rw [lnS_eq, tL_eq, exSs3, tEs3, lnSs3, tLs3]
    show Chunk (ByteArray.data (pad ++ ⟨#[102, 111, 114, 32]⟩ ++ s ++ ⟨#[32, 102, 114, 111, 109, 32]⟩ ++ exS x ++ ⟨#[32, 116, 111, 32]⟩ ++ exS y ++ ⟨#[32, 123, 10]⟩ ++ lnS b (pad ++ ⟨#[32, 32]⟩) ++ pad ++ ⟨#[125, 10]⟩)).toList ([] ++ [⟨#[102, 111, 114]⟩] ++ [s] ++ [⟨#[102, 114, 111, 109]⟩] ++ tE x ++ [⟨#[116, 111]⟩] ++ tE y ++ [⟨#[123]⟩] ++ tL b ++ [⟨#[125]⟩]) F
    rw [toL_app, toL_app, toL_app, toL_app, toL_app, toL_app, toL_app, toL_app, toL_app, toL_app]
    have := (((((((((go (kw (s := ⟨#[102, 111, 114]⟩) (key_kind rfl) (fun _ => True))).app (Chunk.any (name_word hn)) (fun _ _ => trivial)).app (c_mid (s := ⟨#[102, 114, 111, 109]⟩) (key_kind rfl) (fun _ => True)) (fun suf _ => gap32 _)).app c1 (fun _ _ => trivial)).app (c_mid (s := ⟨#[116, 111]⟩) (key_kind rfl) (fun _ => True)) (fun suf _ => gap32 _)).app d1 (fun _ _ => trivial)).app (c_open (fun _ => True)) (fun suf _ => gap32 _)).app b1 (fun _ _ => trivial)).app (pad_chunk hp (fun _ => True)) (fun _ _ => trivial)).app (c_close F) (fun _ _ => trivial)
    simp only [List.append_nil] at this
    exact this
  | ifs h c b d hk hc hb hd hs hm =>
    subst h hk hs hm
    obtain ⟨c1, c2⟩ := expr_chunk c hc.good
    have b1 := ih b (by simp) (.inr hb) hp.more (fun _ => True)
    have d1 := ih d (by simp) (.inr hd) hp.more (fun _ => True)
    rw [lnS_eq, tL_eq, exSs3, tEs3, lnSs3, tLs3]
    have hz : ((([c, b, d] : List T)[2]?).map kidsEmpty).getD true = kidsEmpty d := rfl
    rw [hz]
    have hh := ((((go (kw (s := ⟨#[105, 102]⟩) (key_kind rfl) (fun _ => True))).app c1 (fun _ _ => trivial)).app (c_open (fun _ => True)) (fun suf _ => gap32 _)).app b1 (fun _ _ => trivial)).app (pad_chunk hp (fun _ => True)) (fun _ _ => trivial)
    cases kidsEmpty d with
    | true =>
      show Chunk (ByteArray.data (pad ++ ⟨#[105, 102, 32]⟩ ++ exS c ++ ⟨#[32, 123, 10]⟩ ++ lnS b (pad ++ ⟨#[32, 32]⟩) ++ pad ++ ⟨#[125, 10]⟩)).toList ([] ++ [⟨#[105, 102]⟩] ++ tE c ++ [⟨#[123]⟩] ++ tL b ++ [⟨#[125]⟩]) F
      rw [toL_app, toL_app, toL_app, toL_app, toL_app, toL_app]
      have := hh.app (c_close F) (fun _ _ => trivial)
      simp only [List.append_nil] at this
      exact this
    | false =>
      show Chunk (ByteArray.data (pad ++ ⟨#[105, 102, 32]⟩ ++ exS c ++ ⟨#[32, 123, 10]⟩ ++ lnS b (pad ++ ⟨#[32, 32]⟩) ++ pad ++ ⟨#[125, 32, 101, 108, 115, 101, 32, 123, 10]⟩ ++ lnS d (pad ++ ⟨#[32, 32]⟩) ++ pad ++ ⟨#[125, 10]⟩)).toList ([] ++ [⟨#[105, 102]⟩] ++ tE c ++ [⟨#[123]⟩] ++ tL b ++ [⟨#[125]⟩, ⟨#[101, 108, 115, 101]⟩, ⟨#[123]⟩] ++ tL d ++ [⟨#[125]⟩]) F
      rw [toL_app, toL_app, toL_app, toL_app, toL_app, toL_app, toL_app, toL_app, toL_app]
      have := (((hh.app (c_else (fun _ => True)) (fun _ _ => trivial)).app d1 (fun _ _ => trivial)).app (pad_chunk hp (fun _ => True)) (fun _ _ => trivial)).app (c_close F) (fun _ _ => trivial)
      simp only [List.append_nil] at this
      exact this
 ·obtain ⟨h1, h2⟩ := hg
  have h2' : k = 30 := h2
  subst h2'
  obtain ⟨_, _, r3⟩ := block_shape h1
  rw [lnS_eq, tL_eq]
  exact list_chunk kk (fun t ht G => ih t ht (.inl (r3 t ht)) hp G) F
/-- A program's text. -/
theorem prog_chunk {s : ByteArray} {m : Int} {kk : List T} (h : formedT (.node 40 s m kk) = true) (F : List UInt8 → Prop) : Chunk (lnS (.node 40 s m kk) ⟨#[]⟩).data.toList (tL (.node 40 s m kk)) F := by
 obtain ⟨_, _, ds, ss, rfl, hd, hs⟩ := prog_shape h
 rw [lnS_eq, tL_eq]
 have hp : Blk ⟨#[]⟩ := fun c hc => by simp at hc
 refine list_chunk _ (fun t ht G => ?_) F
 rcases List.mem_append.1 ht with ht | ht
 ·exact decl_chunk t (hd t ht) hp G
 ·rw [List.mem_singleton] at ht
  subst ht
  obtain ⟨a1, a2⟩ := kid_of h (j := ds.length) (t := .node 30 nil_ 0 ss) (by simp)
  exact lines_chunk _ (.inr ⟨a2, rfl⟩) hp G
end Go.Proofs.YtedfnadgmhjojaaGreatDoor
namespace Go.Proofs.YtedfnadgmhjojaaGreatDoor
open Go.RowKit
open Pl

def ELSE : ByteArray := (⟨#[101, 108, 115, 101]⟩ : ByteArray)
/-- A word that no statement opens with. -/
def Odd (t : ByteArray) : Prop := t = ELSE ∨ t = (⟨#[125]⟩ : ByteArray) ∨ t = (⟨#[118, 97, 114]⟩ : ByteArray) ∨ t = (⟨#[97, 114, 114, 97, 121]⟩ : ByteArray)
theorem odd_name {t : ByteArray} (h : Odd t) : kindI t ≠ 1 := by
 rcases h with rfl | rfl | rfl | rfl
 ·rw [key_not_name (ky rfl)]; decide
 ·exact not_name (by decide)
 ·rw [key_not_name (ky rfl)]; decide
 ·rw [key_not_name (ky rfl)]; decide
theorem name_odd {s t : ByteArray} (hn : nameB s = true) (h : Odd t) : s ≠ t := fun e => by
 subst e
 exact odd_name h (name_kind hn)
/-- The first word of a statement. -/
theorem stmt_head (t : T) (h : GoodS t) : ∃ s r, tL t = s :: r ∧ ∀ o, Odd o → s ≠ o := by
 obtain ⟨k, s, m, kk⟩ := t
 have odd : ∀ (w : ByteArray), w ≠ ELSE → w ≠ (⟨#[125]⟩ : ByteArray) → w ≠ (⟨#[118, 97, 114]⟩ : ByteArray) → w ≠ (⟨#[97, 114, 114, 97, 121]⟩ : ByteArray) → ∀ o, Odd o → w ≠ o := fun w a b c d o ho e => by
  rcases ho with q | q | q | q <;> rw [q] at e
  ·exact a e
  ·exact b e
  ·exact c e
  ·exact d e
 rw [tL_eq]
 cases stmt_shape h with
 | set h x hk hx hn hm => subst h hk hm; exact ⟨s, _, rfl, fun o ho => name_odd hn ho⟩
 | put h x y hk hx hy hn hm => subst h hk hm; exact ⟨s, _, rfl, fun o ho => name_odd hn ho⟩
 | read h hk hn hm => subst h hk hm; exact ⟨_, _, rfl, odd _ (by decide) (by decide) (by decide) (by decide)⟩
 | ifs h c b d hk hc hb hd hs hm =>
   subst h hk hs hm
   rw [show ((([c, b, d] : List T)[2]?).map kidsEmpty).getD true = kidsEmpty d from rfl]
   cases kidsEmpty d with
   | true => exact ⟨_, _, rfl, odd _ (by decide) (by decide) (by decide) (by decide)⟩
   | false => exact ⟨_, _, rfl, odd _ (by decide) (by decide) (by decide) (by decide)⟩
 | whil h c b hk hc hb hs hm => subst h hk hs hm; exact ⟨_, _, rfl, odd _ (by decide) (by decide) (by decide) (by decide)⟩
 | fors h x y b hk hx hy hb hn hm => subst h hk hm; exact ⟨_, _, rfl, odd _ (by decide) (by decide) (by decide) (by decide)⟩
 | chec h c hk hc hs hm => subst h hk hs hm; exact ⟨_, _, rfl, odd _ (by decide) (by decide) (by decide) (by decide)⟩
 | skip h hk hs hm => subst h hk hs hm; exact ⟨_, _, rfl, odd _ (by decide) (by decide) (by decide) (by decide)⟩
 | stop h hk hs hm => subst h hk hs hm; exact ⟨_, _, rfl, odd _ (by decide) (by decide) (by decide) (by decide)⟩
/-- A word of letters that is a name is none of the statements' own. -/
theorem name_stmt {ws : List W3} (hw : WsOk ws) {i : Nat} {s : ByteArray} {r : List ByteArray} (h : X ws i = s :: r) (hn : nameB s = true) :
    isW ws i (⟨#[105, 102]⟩ : ByteArray) = false ∧ isW ws i (⟨#[119, 104, 105, 108, 101]⟩ : ByteArray) = false ∧ isW ws i (⟨#[102, 111, 114]⟩ : ByteArray) = false ∧ isW ws i (⟨#[114, 101, 97, 100]⟩ : ByteArray) = false ∧ isW ws i (⟨#[99, 104, 101, 99, 107]⟩ : ByteArray) = false ∧ isW ws i (⟨#[115, 107, 105, 112]⟩ : ByteArray) = false ∧ isW ws i (⟨#[115, 116, 111, 112]⟩ : ByteArray) = false ∧ kindW ws i = 1 := by
 have hk : kindW ws i = 1 := by rw [X_kind hw h, name_kind hn]
 have key : ∀ {t : ByteArray}, keys.contains t.data.toList = true → isW ws i t = false := fun q => name_words hw hk (by rw [key_not_name (ky q)]; decide)
 exact ⟨key rfl, key rfl, key rfl, key rfl, key rfl, key rfl, key rfl, hk⟩
structure Rs (ws : List W3) (F : Nat) (t : T) : Prop where
 S : GoodS t → ∀ (i : Nat) (rest : List ByteArray) (f : Nat), X ws i = tL t ++ rest → rest.head? ≠ some ELSE → 5 * (tL t).length + 3 ≤ F → 3 * (tL t).length + 1 ≤ f → mStmt ws F f i = .ok t (i + (tL t).length)
 B : GoodB t → ∀ (i : Nat) (rest : List ByteArray) (f : Nat), X ws i = ([(⟨#[123]⟩ : ByteArray)] ++ tL t ++ [(⟨#[125]⟩ : ByteArray)]) ++ rest → 5 * (tL t).length + 3 ≤ F → 3 * ((tL t).length + 2) + 2 ≤ f → mBlock ws F f i = .ok t (i + ((tL t).length + 2))
/-- Statements up to the end of a block. -/
theorem list_rt {ws : List W3} {F : Nat} (kk : List T) (hg : ∀ t ∈ kk, GoodS t) (ih : ∀ t ∈ kk, Rs ws F t) (hF : 5 * (tLs kk).flatten.length + 3 ≤ F) : ∀ (acc : List T) (i : Nat) (rest : List ByteArray) (g : Nat),
    X ws i = (tLs kk).flatten ++ ((⟨#[125]⟩ : ByteArray) :: rest) → 3 * (tLs kk).flatten.length + 2 ≤ g → mList ws F g acc i = .ok (.node 30 nil_ 0 (acc ++ kk)) (i + ((tLs kk).flatten.length + 1)) := by
 induction kk with
 | nil =>
   intro acc i rest g hX hf
   obtain ⟨g1, rfl⟩ : ∃ g1, g = g1 + 1 := ⟨g - 1, by omega⟩
   have hX' : X ws i = (⟨#[125]⟩ : ByteArray) :: rest := by rw [hX]; simp [tLs]
   obtain ⟨_, _, _, w1⟩ := X_at hX'
   simp only [mList]
   rw [if_pos (by rw [w1]; decide), List.append_nil]
   simp [tLs]
 | cons t r ihl =>
   intro acc i rest g hX hf
   have hfl : (tLs (t :: r)).flatten = tL t ++ (tLs r).flatten := by simp only [tLs, List.flatten_cons]
   rw [hfl] at hX hf hF ⊢
   rw [List.length_append] at hf hF ⊢
   obtain ⟨s, q, he, hod⟩ := stmt_head t (hg t (by simp))
   have hpos : 1 ≤ (tL t).length := by rw [he]; simp
   obtain ⟨g1, rfl⟩ : ∃ g1, g = g1 + 1 := ⟨g - 1, by omega⟩
   have hX' : X ws i = tL t ++ ((tLs r).flatten ++ ((⟨#[125]⟩ : ByteArray) :: rest)) := by rw [hX]; simp
   have h1 : isW ws i (⟨#[125]⟩ : ByteArray) = false := by
    refine X_not hX' ?_
    rw [he]
    exact hne (hod _ (.inr (.inl rfl)))
   have hel : ((tLs r).flatten ++ ((⟨#[125]⟩ : ByteArray) :: rest)).head? ≠ some ELSE := by
    cases r with
    | nil => simp only [tLs, List.flatten_nil, List.nil_append]; exact hne (by decide)
    | cons y r2 =>
      obtain ⟨s2, q2, he2, hod2⟩ := stmt_head y (hg y (by simp))
      simp only [tLs, List.flatten_cons, he2, List.cons_append]
      exact hne (hod2 _ (.inl rfl))
   have e1 := (ih t (by simp)).S (hg t (by simp)) i _ g1 hX' hel (by omega) (by omega)
   have e2 := ihl (fun x hx => hg x (by simp [hx])) (fun x hx => ih x (by simp [hx])) (by omega) (acc ++ [t]) (i + (tL t).length) rest g1 (X_app hX') (by omega)
   simp only [mList]
   rw [if_neg (by rw [h1]; decide), e1]
   simp only [Res.then_]
   rw [e2, List.append_assoc]
   congr 1; omega
theorem semi_rt {ws : List W3} {F f i j : Nat} {x : T} {rest : List ByteArray} (n0 : isW ws i (⟨#[105, 102]⟩ : ByteArray) = false) (n1 : isW ws i (⟨#[119, 104, 105, 108, 101]⟩ : ByteArray) = false) (n2 : isW ws i (⟨#[102, 111, 114]⟩ : ByteArray) = false) (h : mShort ws F i = .ok x j) (hX : X ws j = (⟨#[59]⟩ : ByteArray) :: rest) : mStmt ws F (f + 1) i = .ok x (j + 1) := by
 obtain ⟨_, _, _, w1⟩ := X_at hX
 rw [stmt_short_eq n0 n1 n2, h]
 simp only [Res.then_, want]
 rw [if_pos (by rw [w1]; decide)]
theorem other {ws : List W3} {i : Nat} {s t : ByteArray} {r : List ByteArray} (h : X ws i = s :: r) (q : s ≠ t) : isW ws i t = false := by rw [(X_at h).2.2.2]; simpa using q
theorem this {ws : List W3} {i : Nat} {s : ByteArray} {r : List ByteArray} (h : X ws i = s :: r) : isW ws i s = true := by rw [(X_at h).2.2.2]; simp
theorem stmt_rt {ws : List W3} (hw : WsOk ws) {F : Nat} (t : T) : Rs ws F t := by
 refine T.induct (P := fun t => Rs ws F t) ?_ t
 intro k s m kk ih
 refine ⟨fun hg i rest f hX hel hF hf => ?_, fun hg i rest f hX hF hf => ?_⟩
 ·rw [tL_eq] at hX hF hf ⊢
  cases stmt_shape hg with
  | set h x hk hx hn hm =>
    subst h hk hm
    rw [tEs1] at hX hF hf ⊢
    have hl : ([s, (⟨#[61]⟩ : ByteArray)] ++ tE x ++ [(⟨#[59]⟩ : ByteArray)]).length = (tE x).length + 3 := by simp
    have hX' : X ws i = s :: (⟨#[61]⟩ : ByteArray) :: (tE x ++ ((⟨#[59]⟩ : ByteArray) :: rest)) := by rw [hX]; show ([s, (⟨#[61]⟩ : ByteArray)] ++ tE x ++ [(⟨#[59]⟩ : ByteArray)]) ++ rest = _; simp
    change 5 * ([s, (⟨#[61]⟩ : ByteArray)] ++ tE x ++ [(⟨#[59]⟩ : ByteArray)]).length + 3 ≤ F at hF
    change 3 * ([s, (⟨#[61]⟩ : ByteArray)] ++ tE x ++ [(⟨#[59]⟩ : ByteArray)]).length + 1 ≤ f at hf
    show _ = Res.ok _ (i + ([s, (⟨#[61]⟩ : ByteArray)] ++ tE x ++ [(⟨#[59]⟩ : ByteArray)]).length)
    rw [hl] at hF hf ⊢
    obtain ⟨f1, rfl⟩ : ∃ f1, f = f1 + 1 := ⟨f - 1, by omega⟩
    obtain ⟨n0, n1, n2, n3, n4, n5, n6, k1⟩ := name_stmt hw hX' hn
    obtain ⟨_, ht, x1, _⟩ := X_at hX'
    obtain ⟨_, _, x2, _⟩ := X_at x1
    have e1 := (expr_rt hw x hx).whole (f := F) x2 (hne (by decide)) (hne (by decide)) (hne (by decide)) (hne (by decide)) (by omega)
    refine (semi_rt (x := .node 21 s 0 [x]) (j := i + 2 + (tE x).length) n0 n1 n2 ?_ (X_app x2)).trans (by congr 1; omega)
    unfold mShort wantK want
    rw [if_neg (by rw [n3]; decide), if_neg (by rw [n4]; decide), if_neg (by rw [n5]; decide), if_neg (by rw [n6]; decide), if_pos k1, if_neg (by rw [other x1 (by decide)]; decide), if_pos (this x1), show mExpr ws F (i + 2) = _ from e1, ht]
    rfl
  | put h x y hk hx hy hn hm =>
    subst h hk hm
    rw [tEs2] at hX hF hf ⊢
    have hl : ([s, (⟨#[91]⟩ : ByteArray)] ++ tE x ++ [(⟨#[93]⟩ : ByteArray), (⟨#[61]⟩ : ByteArray)] ++ tE y ++ [(⟨#[59]⟩ : ByteArray)]).length = (tE x).length + (tE y).length + 5 := by simp; omega
    have hX' : X ws i = s :: (⟨#[91]⟩ : ByteArray) :: (tE x ++ ((⟨#[93]⟩ : ByteArray) :: (⟨#[61]⟩ : ByteArray) :: (tE y ++ ((⟨#[59]⟩ : ByteArray) :: rest)))) := by rw [hX]; show ([s, (⟨#[91]⟩ : ByteArray)] ++ tE x ++ [(⟨#[93]⟩ : ByteArray), (⟨#[61]⟩ : ByteArray)] ++ tE y ++ [(⟨#[59]⟩ : ByteArray)]) ++ rest = _; simp
    change 5 * ([s, (⟨#[91]⟩ : ByteArray)] ++ tE x ++ [(⟨#[93]⟩ : ByteArray), (⟨#[61]⟩ : ByteArray)] ++ tE y ++ [(⟨#[59]⟩ : ByteArray)]).length + 3 ≤ F at hF
    change 3 * ([s, (⟨#[91]⟩ : ByteArray)] ++ tE x ++ [(⟨#[93]⟩ : ByteArray), (⟨#[61]⟩ : ByteArray)] ++ tE y ++ [(⟨#[59]⟩ : ByteArray)]).length + 1 ≤ f at hf
    show _ = Res.ok _ (i + ([s, (⟨#[91]⟩ : ByteArray)] ++ tE x ++ [(⟨#[93]⟩ : ByteArray), (⟨#[61]⟩ : ByteArray)] ++ tE y ++ [(⟨#[59]⟩ : ByteArray)]).length)
    rw [hl] at hF hf ⊢
    obtain ⟨f1, rfl⟩ : ∃ f1, f = f1 + 1 := ⟨f - 1, by omega⟩
    obtain ⟨n0, n1, n2, n3, n4, n5, n6, k1⟩ := name_stmt hw hX' hn
    obtain ⟨_, ht, x1, _⟩ := X_at hX'
    obtain ⟨_, _, x2, _⟩ := X_at x1
    have e1 := (expr_rt hw x hx).whole (f := F) x2 (hne (by decide)) (hne (by decide)) (hne (by decide)) (hne (by decide)) (by omega)
    have x3 := X_app x2
    obtain ⟨_, _, x4, _⟩ := X_at x3
    obtain ⟨_, _, x5, _⟩ := X_at x4
    have e2 := (expr_rt hw y hy).whole (f := F) x5 (hne (by decide)) (hne (by decide)) (hne (by decide)) (hne (by decide)) (by omega)
    refine (semi_rt (x := .node 22 s 0 [x, y]) (j := i + 1 + 1 + (tE x).length + 1 + 1 + (tE y).length) n0 n1 n2 ?_ (X_app x5)).trans (by congr 1; omega)
    unfold mShort wantK want
    rw [if_neg (by rw [n3]; decide), if_neg (by rw [n4]; decide), if_neg (by rw [n5]; decide), if_neg (by rw [n6]; decide), if_pos k1, if_pos (this x1), show mExpr ws F (i + 2) = _ from e1]
    simp only [Res.then_]
    rw [if_pos (this x3), if_pos (this x4), show mExpr ws F (i + 1 + 1 + (tE x).length + 2) = _ from e2, ht]
  | read h hk hn hm =>
    subst h hk hm
    have hX' : X ws i = (⟨#[114, 101, 97, 100]⟩ : ByteArray) :: s :: (⟨#[59]⟩ : ByteArray) :: rest := hX
    change 3 * 3 + 1 ≤ f at hf
    obtain ⟨f1, rfl⟩ : ∃ f1, f = f1 + 1 := ⟨f - 1, by omega⟩
    obtain ⟨_, _, x1, _⟩ := X_at hX'
    obtain ⟨_, ht, x2, _⟩ := X_at x1
    have k1 := X_kind hw x1
    rw [name_kind hn] at k1
    refine semi_rt (x := .node 23 s 0 []) (j := i + 2) (other hX' (by decide)) (other hX' (by decide)) (other hX' (by decide)) ?_ x2
    unfold mShort wantK
    rw [if_pos (this hX'), if_pos k1, ht]
  | chec h c hk hc hs hm =>
    subst h hk hs hm
    rw [tEs1] at hX hF hf ⊢
    have hl : ([(⟨#[99, 104, 101, 99, 107]⟩ : ByteArray)] ++ tE c ++ [(⟨#[59]⟩ : ByteArray)]).length = (tE c).length + 2 := by simp
    have hX' : X ws i = (⟨#[99, 104, 101, 99, 107]⟩ : ByteArray) :: (tE c ++ ((⟨#[59]⟩ : ByteArray) :: rest)) := by rw [hX]; show ([(⟨#[99, 104, 101, 99, 107]⟩ : ByteArray)] ++ tE c ++ [(⟨#[59]⟩ : ByteArray)]) ++ rest = _; simp
    change 5 * ([(⟨#[99, 104, 101, 99, 107]⟩ : ByteArray)] ++ tE c ++ [(⟨#[59]⟩ : ByteArray)]).length + 3 ≤ F at hF
    change 3 * ([(⟨#[99, 104, 101, 99, 107]⟩ : ByteArray)] ++ tE c ++ [(⟨#[59]⟩ : ByteArray)]).length + 1 ≤ f at hf
    show _ = Res.ok _ (i + ([(⟨#[99, 104, 101, 99, 107]⟩ : ByteArray)] ++ tE c ++ [(⟨#[59]⟩ : ByteArray)]).length)
    rw [hl] at hF hf ⊢
    obtain ⟨f1, rfl⟩ : ∃ f1, f = f1 + 1 := ⟨f - 1, by omega⟩
    obtain ⟨_, _, x1, _⟩ := X_at hX'
    obtain ⟨ck, cs, cm, ckk⟩ := c
    have e1 := cond_rt hw hc.good hc.2.1 (f := F) x1 (hne (by decide)) (hne (by decide)) (hne (by decide)) (hne (by decide)) (by omega)
    refine (semi_rt (x := .node 27 nil_ 0 [.node ck cs cm ckk]) (j := i + 1 + (tE (.node ck cs cm ckk)).length) (other hX' (by decide)) (other hX' (by decide)) (other hX' (by decide)) ?_ (X_app x1)).trans (by congr 1; omega)
    unfold mShort
    rw [if_neg (by rw [other hX' (by decide)]; decide), if_pos (this hX'), e1]
    rfl
  | skip h hk hs hm =>
    subst h hk hs hm
    have hX' : X ws i = (⟨#[115, 107, 105, 112]⟩ : ByteArray) :: (⟨#[59]⟩ : ByteArray) :: rest := hX
    change 3 * 2 + 1 ≤ f at hf
    obtain ⟨f1, rfl⟩ : ∃ f1, f = f1 + 1 := ⟨f - 1, by omega⟩
    obtain ⟨_, _, x1, _⟩ := X_at hX'
    refine semi_rt (x := .node 28 nil_ 0 []) (j := i + 1) (other hX' (by decide)) (other hX' (by decide)) (other hX' (by decide)) ?_ x1
    unfold mShort
    rw [if_neg (by rw [other hX' (by decide)]; decide), if_neg (by rw [other hX' (by decide)]; decide), if_pos (this hX')]
  | stop h hk hs hm =>
    subst h hk hs hm
    have hX' : X ws i = (⟨#[115, 116, 111, 112]⟩ : ByteArray) :: (⟨#[59]⟩ : ByteArray) :: rest := hX
    change 3 * 2 + 1 ≤ f at hf
    obtain ⟨f1, rfl⟩ : ∃ f1, f = f1 + 1 := ⟨f - 1, by omega⟩
    obtain ⟨_, _, x1, _⟩ := X_at hX'
    refine semi_rt (x := .node 29 nil_ 0 []) (j := i + 1) (other hX' (by decide)) (other hX' (by decide)) (other hX' (by decide)) ?_ x1
    unfold mShort
    rw [if_neg (by rw [other hX' (by decide)]; decide), if_neg (by rw [other hX' (by decide)]; decide), if_neg (by rw [other hX' (by decide)]; decide), if_pos (this hX')]
  | whil h c b hk hc hb hs hm =>
    subst h hk hs hm
    rw [tEs2, tLs2] at hX hF hf ⊢
    have hl : ([(⟨#[119, 104, 105, 108, 101]⟩ : ByteArray)] ++ tE c ++ [(⟨#[123]⟩ : ByteArray)] ++ tL b ++ [(⟨#[125]⟩ : ByteArray)]).length = (tE c).length + (tL b).length + 3 := by simp; omega
    have hX' : X ws i = (⟨#[119, 104, 105, 108, 101]⟩ : ByteArray) :: (tE c ++ (([(⟨#[123]⟩ : ByteArray)] ++ tL b ++ [(⟨#[125]⟩ : ByteArray)]) ++ rest)) := by rw [hX]; show ([(⟨#[119, 104, 105, 108, 101]⟩ : ByteArray)] ++ tE c ++ [(⟨#[123]⟩ : ByteArray)] ++ tL b ++ [(⟨#[125]⟩ : ByteArray)]) ++ rest = _; simp
    change 5 * ([(⟨#[119, 104, 105, 108, 101]⟩ : ByteArray)] ++ tE c ++ [(⟨#[123]⟩ : ByteArray)] ++ tL b ++ [(⟨#[125]⟩ : ByteArray)]).length + 3 ≤ F at hF
    change 3 * ([(⟨#[119, 104, 105, 108, 101]⟩ : ByteArray)] ++ tE c ++ [(⟨#[123]⟩ : ByteArray)] ++ tL b ++ [(⟨#[125]⟩ : ByteArray)]).length + 1 ≤ f at hf
    show _ = Res.ok _ (i + ([(⟨#[119, 104, 105, 108, 101]⟩ : ByteArray)] ++ tE c ++ [(⟨#[123]⟩ : ByteArray)] ++ tL b ++ [(⟨#[125]⟩ : ByteArray)]).length)
    rw [hl] at hF hf ⊢
    obtain ⟨f1, rfl⟩ : ∃ f1, f = f1 + 1 := ⟨f - 1, by omega⟩
    obtain ⟨_, _, x1, _⟩ := X_at hX'
    obtain ⟨ck, cs, cm, ckk⟩ := c
    have hpc := 0
    have e1 := cond_rt hw hc.good hc.2.1 (f := F) x1 (hne (by decide)) (hne (by decide)) (hne (by decide)) (hne (by decide)) (by omega)
    have hcl : 1 ≤ (tE (.node ck cs cm ckk)).length := by have := adv_cond e1; omega
    have e2 := (ih b (by simp)).B hb _ rest f1 (X_app x1) (by omega) (by omega)
    simp only [mStmt]
    rw [if_neg (by rw [other hX' (by decide)]; decide), if_pos (this hX'), e1]
    simp only [Res.then_]
    rw [e2]
    show Res.ok _ _ = _
    congr 1; omega
  | fors h x y b hk hx hy hb hn hm =>
    subst h hk hm
    rw [tEs3, tLs3] at hX hF hf ⊢
    have hl : ([(⟨#[102, 111, 114]⟩ : ByteArray), s, (⟨#[102, 114, 111, 109]⟩ : ByteArray)] ++ tE x ++ [(⟨#[116, 111]⟩ : ByteArray)] ++ tE y ++ [(⟨#[123]⟩ : ByteArray)] ++ tL b ++ [(⟨#[125]⟩ : ByteArray)]).length = (tE x).length + (tE y).length + (tL b).length + 6 := by simp; omega
    have hX' : X ws i = (⟨#[102, 111, 114]⟩ : ByteArray) :: s :: (⟨#[102, 114, 111, 109]⟩ : ByteArray) :: (tE x ++ ((⟨#[116, 111]⟩ : ByteArray) :: (tE y ++ (([(⟨#[123]⟩ : ByteArray)] ++ tL b ++ [(⟨#[125]⟩ : ByteArray)]) ++ rest)))) := by rw [hX]; show ([(⟨#[102, 111, 114]⟩ : ByteArray), s, (⟨#[102, 114, 111, 109]⟩ : ByteArray)] ++ tE x ++ [(⟨#[116, 111]⟩ : ByteArray)] ++ tE y ++ [(⟨#[123]⟩ : ByteArray)] ++ tL b ++ [(⟨#[125]⟩ : ByteArray)]) ++ rest = _; simp
    change 5 * ([(⟨#[102, 111, 114]⟩ : ByteArray), s, (⟨#[102, 114, 111, 109]⟩ : ByteArray)] ++ tE x ++ [(⟨#[116, 111]⟩ : ByteArray)] ++ tE y ++ [(⟨#[123]⟩ : ByteArray)] ++ tL b ++ [(⟨#[125]⟩ : ByteArray)]).length + 3 ≤ F at hF
    change 3 * ([(⟨#[102, 111, 114]⟩ : ByteArray), s, (⟨#[102, 114, 111, 109]⟩ : ByteArray)] ++ tE x ++ [(⟨#[116, 111]⟩ : ByteArray)] ++ tE y ++ [(⟨#[123]⟩ : ByteArray)] ++ tL b ++ [(⟨#[125]⟩ : ByteArray)]).length + 1 ≤ f at hf
    show _ = Res.ok _ (i + ([(⟨#[102, 111, 114]⟩ : ByteArray), s, (⟨#[102, 114, 111, 109]⟩ : ByteArray)] ++ tE x ++ [(⟨#[116, 111]⟩ : ByteArray)] ++ tE y ++ [(⟨#[123]⟩ : ByteArray)] ++ tL b ++ [(⟨#[125]⟩ : ByteArray)]).length)
    rw [hl] at hF hf ⊢
    obtain ⟨f1, rfl⟩ : ∃ f1, f = f1 + 1 := ⟨f - 1, by omega⟩
    obtain ⟨_, _, x1, _⟩ := X_at hX'
    obtain ⟨_, ht, x2, _⟩ := X_at x1
    obtain ⟨_, _, x3, _⟩ := X_at x2
    have k1 := X_kind hw x1
    rw [name_kind hn] at k1
    have e1 := (expr_rt hw x hx).whole (f := F) x3 (hne (by decide)) (hne (by decide)) (hne (by decide)) (hne (by decide)) (by omega)
    have x4 := X_app x3
    obtain ⟨_, _, x5, _⟩ := X_at x4
    have e2 := (expr_rt hw y hy).whole (f := F) x5 (hne (by decide)) (hne (by decide)) (hne (by decide)) (hne (by decide)) (by omega)
    have e3 := (ih b (by simp)).B hb _ rest f1 (X_app x5) (by omega) (by omega)
    simp only [mStmt, want, wantK]
    rw [if_neg (by rw [other hX' (by decide)]; decide), if_neg (by rw [other hX' (by decide)]; decide), if_pos (this hX'), if_pos k1, if_pos (show isW ws (i + 2) (⟨#[102, 114, 111, 109]⟩ : ByteArray) = true from this x2), show mExpr ws F (i + 3) = _ from e1]
    simp only [Res.then_]
    rw [if_pos (show isW ws (i + 1 + 1 + 1 + (tE x).length) (⟨#[116, 111]⟩ : ByteArray) = true from this x4), show mExpr ws F (i + 1 + 1 + 1 + (tE x).length + 1) = _ from e2]
    simp only
    rw [e3, ht]
    show Res.ok _ _ = _
    congr 1; omega
  | ifs h c b d hk hc hb hd hs hm =>
    subst h hk hs hm
    rw [tEs3, tLs3] at hX hF hf ⊢
    rw [show ((([c, b, d] : List T)[2]?).map kidsEmpty).getD true = kidsEmpty d from rfl] at hX hF hf ⊢
    obtain ⟨ck, cs, cm, ckk⟩ := c
    cases hz : kidsEmpty d with
    | true =>
      rw [hz] at hX hF hf
      have hd0 : d = .node 30 nil_ 0 [] := by
       obtain ⟨dk, dn, dm, dkk⟩ := d
       have q : dk = 30 := hd.2
       subst q
       obtain ⟨r1, r2, _⟩ := block_shape hd.1
       have : dkk = [] := by simpa [kidsEmpty] using hz
       rw [r1, r2, this]
      have hl : ([(⟨#[105, 102]⟩ : ByteArray)] ++ tE (.node ck cs cm ckk) ++ [(⟨#[123]⟩ : ByteArray)] ++ tL b ++ [(⟨#[125]⟩ : ByteArray)]).length = (tE (.node ck cs cm ckk)).length + (tL b).length + 3 := by simp; omega
      have hX' : X ws i = (⟨#[105, 102]⟩ : ByteArray) :: (tE (.node ck cs cm ckk) ++ (([(⟨#[123]⟩ : ByteArray)] ++ tL b ++ [(⟨#[125]⟩ : ByteArray)]) ++ rest)) := by rw [hX]; show ([(⟨#[105, 102]⟩ : ByteArray)] ++ tE (.node ck cs cm ckk) ++ [(⟨#[123]⟩ : ByteArray)] ++ tL b ++ [(⟨#[125]⟩ : ByteArray)]) ++ rest = _; simp
      change 5 * ([(⟨#[105, 102]⟩ : ByteArray)] ++ tE (.node ck cs cm ckk) ++ [(⟨#[123]⟩ : ByteArray)] ++ tL b ++ [(⟨#[125]⟩ : ByteArray)]).length + 3 ≤ F at hF
      change 3 * ([(⟨#[105, 102]⟩ : ByteArray)] ++ tE (.node ck cs cm ckk) ++ [(⟨#[123]⟩ : ByteArray)] ++ tL b ++ [(⟨#[125]⟩ : ByteArray)]).length + 1 ≤ f at hf
      show _ = Res.ok _ (i + ([(⟨#[105, 102]⟩ : ByteArray)] ++ tE (.node ck cs cm ckk) ++ [(⟨#[123]⟩ : ByteArray)] ++ tL b ++ [(⟨#[125]⟩ : ByteArray)]).length)
      rw [hl] at hF hf ⊢
      obtain ⟨f1, rfl⟩ : ∃ f1, f = f1 + 1 := ⟨f - 1, by omega⟩
      obtain ⟨_, _, x1, _⟩ := X_at hX'
      have e1 := cond_rt hw hc.good hc.2.1 (f := F) x1 (hne (by decide)) (hne (by decide)) (hne (by decide)) (hne (by decide)) (by omega)
      have hcl : 1 ≤ (tE (.node ck cs cm ckk)).length := by have := adv_cond e1; omega
      have e2 := (ih b (by simp)).B hb _ rest f1 (X_app x1) (by omega) (by omega)
      have x2 := X_app (X_app x1)
      have hbl : ([(⟨#[123]⟩ : ByteArray)] ++ tL b ++ [(⟨#[125]⟩ : ByteArray)]).length = (tL b).length + 2 := by simp
      rw [hbl] at x2
      simp only [mStmt]
      rw [if_pos (this hX'), e1]
      simp only [Res.then_]
      rw [e2]
      simp only
      rw [if_neg (by rw [show isW ws (i + 1 + (tE (.node ck cs cm ckk)).length + ((tL b).length + 2)) (⟨#[101, 108, 115, 101]⟩ : ByteArray) = false from X_not x2 hel]; decide), hd0]
      congr 1; omega
    | false =>
      rw [hz] at hX hF hf
      have hl : ([(⟨#[105, 102]⟩ : ByteArray)] ++ tE (.node ck cs cm ckk) ++ [(⟨#[123]⟩ : ByteArray)] ++ tL b ++ [(⟨#[125]⟩ : ByteArray), (⟨#[101, 108, 115, 101]⟩ : ByteArray), (⟨#[123]⟩ : ByteArray)] ++ tL d ++ [(⟨#[125]⟩ : ByteArray)]).length = (tE (.node ck cs cm ckk)).length + (tL b).length + (tL d).length + 6 := by simp; omega
      have hX' : X ws i = (⟨#[105, 102]⟩ : ByteArray) :: (tE (.node ck cs cm ckk) ++ (([(⟨#[123]⟩ : ByteArray)] ++ tL b ++ [(⟨#[125]⟩ : ByteArray)]) ++ ((⟨#[101, 108, 115, 101]⟩ : ByteArray) :: (([(⟨#[123]⟩ : ByteArray)] ++ tL d ++ [(⟨#[125]⟩ : ByteArray)]) ++ rest)))) := by rw [hX]; show ([(⟨#[105, 102]⟩ : ByteArray)] ++ tE (.node ck cs cm ckk) ++ [(⟨#[123]⟩ : ByteArray)] ++ tL b ++ [(⟨#[125]⟩ : ByteArray), (⟨#[101, 108, 115, 101]⟩ : ByteArray), (⟨#[123]⟩ : ByteArray)] ++ tL d ++ [(⟨#[125]⟩ : ByteArray)]) ++ rest = _; simp
      change 5 * ([(⟨#[105, 102]⟩ : ByteArray)] ++ tE (.node ck cs cm ckk) ++ [(⟨#[123]⟩ : ByteArray)] ++ tL b ++ [(⟨#[125]⟩ : ByteArray), (⟨#[101, 108, 115, 101]⟩ : ByteArray), (⟨#[123]⟩ : ByteArray)] ++ tL d ++ [(⟨#[125]⟩ : ByteArray)]).length + 3 ≤ F at hF
      change 3 * ([(⟨#[105, 102]⟩ : ByteArray)] ++ tE (.node ck cs cm ckk) ++ [(⟨#[123]⟩ : ByteArray)] ++ tL b ++ [(⟨#[125]⟩ : ByteArray), (⟨#[101, 108, 115, 101]⟩ : ByteArray), (⟨#[123]⟩ : ByteArray)] ++ tL d ++ [(⟨#[125]⟩ : ByteArray)]).length + 1 ≤ f at hf
      show _ = Res.ok _ (i + ([(⟨#[105, 102]⟩ : ByteArray)] ++ tE (.node ck cs cm ckk) ++ [(⟨#[123]⟩ : ByteArray)] ++ tL b ++ [(⟨#[125]⟩ : ByteArray), (⟨#[101, 108, 115, 101]⟩ : ByteArray), (⟨#[123]⟩ : ByteArray)] ++ tL d ++ [(⟨#[125]⟩ : ByteArray)]).length)
      rw [hl] at hF hf ⊢
      obtain ⟨f1, rfl⟩ : ∃ f1, f = f1 + 1 := ⟨f - 1, by omega⟩
      obtain ⟨_, _, x1, _⟩ := X_at hX'
      have e1 := cond_rt hw hc.good hc.2.1 (f := F) x1 (hne (by decide)) (hne (by decide)) (hne (by decide)) (hne (by decide)) (by omega)
      have e2 := (ih b (by simp)).B hb _ _ f1 (X_app x1) (by omega) (by omega)
      have x2 := X_app (X_app x1)
      have hbl : ([(⟨#[123]⟩ : ByteArray)] ++ tL b ++ [(⟨#[125]⟩ : ByteArray)]).length = (tL b).length + 2 := by simp
      rw [hbl] at x2
      obtain ⟨_, _, x3, _⟩ := X_at x2
      have e3 := (ih d (by simp)).B hd _ rest f1 x3 (by omega) (by omega)
      simp only [mStmt]
      rw [if_pos (this hX'), e1]
      simp only [Res.then_]
      rw [e2]
      simp only
      rw [if_pos (this x2), e3]
      show Res.ok _ _ = _
      congr 1; omega
 ·obtain ⟨h1, h2⟩ := hg
  have h2' : k = 30 := h2
  subst h2'
  obtain ⟨r1, r2, r3⟩ := block_shape h1
  subst r1 r2
  rw [tL_eq] at hX hF hf ⊢
  change X ws i = ([(⟨#[123]⟩ : ByteArray)] ++ (tLs kk).flatten ++ [(⟨#[125]⟩ : ByteArray)]) ++ rest at hX
  change 5 * (tLs kk).flatten.length + 3 ≤ F at hF
  change 3 * ((tLs kk).flatten.length + 2) + 2 ≤ f at hf
  show _ = Res.ok _ (i + ((tLs kk).flatten.length + 2))
  obtain ⟨f1, rfl⟩ : ∃ f1, f = f1 + 1 := ⟨f - 1, by omega⟩
  have hX' : X ws i = (⟨#[123]⟩ : ByteArray) :: ((tLs kk).flatten ++ ((⟨#[125]⟩ : ByteArray) :: rest)) := by rw [hX]; simp
  obtain ⟨_, _, x1, _⟩ := X_at hX'
  simp only [mBlock, want]
  rw [if_pos (this hX'), list_rt kk r3 ih hF [] (i + 1) rest f1 x1 (by omega), List.nil_append]
  congr 1; omega
end Go.Proofs.YtedfnadgmhjojaaGreatDoor
