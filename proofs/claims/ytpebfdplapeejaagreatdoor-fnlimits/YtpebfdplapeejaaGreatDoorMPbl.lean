/-
  PLAIN FACTS: the text of lines is read as their words.
  CONTRACTS of the specification's l02Lines, kind by kind.
  CONTRACTS of the specification's l02Lines: for and if.
  CONTRACTS of the specification's l02Lines: arrays, blocks, programs; all together.
  CONTRACTS of the printer's indent; a printer that goes further in.
  CONTRACTS of the printer's lines and block.
-/
import Derived.Test.YtpebfdplapeejaaGreatDoorMLns
import Derived.Test.YtpebfdplapeejaaGreatDoorMChn
import Derived.Test.YtpebfdplapeejaaGreatDoorMGroveb
namespace Go.Proofs.YtpebfdplapeejaaGreatDoor
open Go.RowKit
open Pl

def Blk (pad : ByteArray) : Prop := ∀ c ∈ pad.data.toList, c.toNat = 32 ∨ c.toNat = 10
theorem Blk.more {pad : ByteArray} (h : Blk pad) : Blk (pad ++ ⟨#[32, 32]⟩) := fun c hc => by
  rw [toL_app, List.mem_append] at hc
  rcases hc with hc | hc
  · exact h c hc
  · simp at hc; subst hc; exact .inl rfl
theorem lnS_eq (k : Int) (s : ByteArray) (m : Int) (kk : List T) (pad : ByteArray) : lnS (.node k s m kk) pad = layL k s m pad (exSs kk) (lnSs kk (pad ++ ⟨#[32, 32]⟩)) (lnSs kk pad) ((kk[2]?.map kidsEmpty).getD true) := by simp only [lnS]
theorem exSs1 (x : T) : exSs [x] = [(kindT x, exS x)] := by simp only [exSs]
theorem exSs2 (x y : T) : exSs [x, y] = [(kindT x, exS x), (kindT y, exS y)] := by simp only [exSs]
theorem exSs3 (x y z : T) : exSs [x, y, z] = [(kindT x, exS x), (kindT y, exS y), (kindT z, exS z)] := by simp only [exSs]
theorem lnSs2 (x y : T) (p : ByteArray) : lnSs [x, y] p = [lnS x p, lnS y p] := by simp only [lnSs]
theorem lnSs3 (x y z : T) (p : ByteArray) : lnSs [x, y, z] p = [lnS x p, lnS y p, lnS z p] := by simp only [lnSs]
end Go.Proofs.YtpebfdplapeejaaGreatDoor
namespace Go.Proofs.YtpebfdplapeejaaGreatDoor
open Go.RowKit
open Pl

/-- What has lines. -/
def GoodL (t : T) : Prop := GoodS t ∨ GoodB t ∨ GoodD t ∨ (formedT t = true ∧ kindT t = 40)
theorem GoodL.formed {t : T} (h : GoodL t) : formedT t = true := by
  rcases h with h | h | h | h <;> exact h.1
theorem name_len8 {k m : Int} {s : ByteArray} {kk : List T} (h : GoodL (.node k s m kk)) : s.size ≤ 8 := head_size (formed_parts h.formed).1
theorem dep_mem {kk : List T} {t : T} (h : t ∈ kk) : dep t ≤ deps kk := by
  induction kk with
  | nil => cases h
  | cons x r ih =>
    simp only [deps]
    rcases List.mem_cons.1 h with rfl | h
    · omega
    · have := ih h; omega
theorem cat_size {pad : ByteArray} (kk : List T) (h : ∀ t ∈ kk, (lnS t pad).size ≤ 3000000 * cnt t) : (catS (lnSs kk pad)).size ≤ 3000000 * cnts kk := by
  induction kk with
  | nil => simp only [lnSs, catS, cnts]; decide
  | cons t r ih =>
    simp only [lnSs, catS, cnts, ByteArray.size_append]
    have := h t (by simp)
    have := ih fun x hx => h x (by simp [hx])
    omega
theorem bz (a : Array UInt8) : (ByteArray.mk a).size = a.size := rfl
theorem num_size {m : Int} (h1 : m ≤ 1000000) : (numS m).size ≤ 1000001 := by
  unfold numS
  split
  · have := dec_size m.toNat; omega
  · decide
theorem ln_size (t : T) : GoodL t → ∀ pad : ByteArray, pad.size + 2 * dep t ≤ 1000 → (lnS t pad).size ≤ 3000000 * cnt t := by
  refine T.induct (P := fun t => GoodL t → ∀ pad : ByteArray, pad.size + 2 * dep t ≤ 1000 → (lnS t pad).size ≤ 3000000 * cnt t) ?_ t
  intro k s m kk ih hg pad hp
  have hs := name_len8 hg
  have hd : ∀ x ∈ kk, pad.size + 2 + 2 * dep x ≤ 1000 := fun x hx => by have := dep_mem hx; simp only [dep] at hp; omega
  have more : ∀ x ∈ kk, GoodB x → (lnS x (pad ++ ⟨#[32, 32]⟩)).size ≤ 3000000 * cnt x := fun x hx hb => ih x hx (.inr (.inl hb)) _ (by rw [ByteArray.size_append]; exact hd x hx)
  have hpd : pad.size ≤ 1000 := by omega
  rcases hg with hg | hg | hg | hg
  · rw [lnS_eq]
    cases stmt_shape hg with
    | set h x hk hx hn hm =>
      subst h hk hm
      have := exS_size _ hx.good
      rw [exSs1]
      show (pad ++ s ++ ⟨#[32, 61, 32]⟩ ++ exS x ++ ⟨#[59, 10]⟩).size ≤ _
      simp only [ByteArray.size_append, bz, List.size_toArray, List.length_cons, List.length_nil, cnt, cnts]
      omega
    | put h x y hk hx hy hn hm =>
      subst h hk hm
      have := exS_size _ hx.good
      have := exS_size _ hy.good
      rw [exSs2]
      show (pad ++ s ++ ⟨#[91]⟩ ++ exS x ++ ⟨#[93, 32, 61, 32]⟩ ++ exS y ++ ⟨#[59, 10]⟩).size ≤ _
      simp only [ByteArray.size_append, bz, List.size_toArray, List.length_cons, List.length_nil, cnt, cnts]
      omega
    | read h hk hn hm =>
      subst h hk hm
      show (pad ++ ⟨#[114, 101, 97, 100, 32]⟩ ++ s ++ ⟨#[59, 10]⟩).size ≤ _
      simp only [ByteArray.size_append, bz, List.size_toArray, List.length_cons, List.length_nil, cnt, cnts]
      omega
    | chec h c hk hc hs2 hm =>
      subst h hk hm
      have := exS_size _ hc.good
      rw [exSs1]
      show (pad ++ ⟨#[99, 104, 101, 99, 107, 32]⟩ ++ exS c ++ ⟨#[59, 10]⟩).size ≤ _
      simp only [ByteArray.size_append, bz, List.size_toArray, List.length_cons, List.length_nil, cnt, cnts]
      omega
    | skip h hk hs2 hm =>
      subst h hk hm
      show (pad ++ ⟨#[115, 107, 105, 112, 59, 10]⟩).size ≤ _
      simp only [ByteArray.size_append, bz, List.size_toArray, List.length_cons, List.length_nil, cnt, cnts]
      omega
    | stop h hk hs2 hm =>
      subst h hk hm
      show (pad ++ ⟨#[115, 116, 111, 112, 59, 10]⟩).size ≤ _
      simp only [ByteArray.size_append, bz, List.size_toArray, List.length_cons, List.length_nil, cnt, cnts]
      omega
    | whil h c b hk hc hb hs2 hm =>
      subst h hk hm
      have := exS_size _ hc.good
      have := more b (by simp) hb
      rw [exSs2, lnSs2]
      show (pad ++ ⟨#[119, 104, 105, 108, 101, 32]⟩ ++ exS c ++ ⟨#[32, 123, 10]⟩ ++ lnS b (pad ++ ⟨#[32, 32]⟩) ++ pad ++ ⟨#[125, 10]⟩).size ≤ _
      simp only [ByteArray.size_append, bz, List.size_toArray, List.length_cons, List.length_nil, cnt, cnts]
      omega
    | fors h x y b hk hx hy hb hn hm =>
      subst h hk hm
      have := exS_size _ hx.good
      have := exS_size _ hy.good
      have := more b (by simp) hb
      rw [exSs3, lnSs3]
      show (pad ++ ⟨#[102, 111, 114, 32]⟩ ++ s ++ ⟨#[32, 102, 114, 111, 109, 32]⟩ ++ exS x ++ ⟨#[32, 116, 111, 32]⟩ ++ exS y ++ ⟨#[32, 123, 10]⟩ ++ lnS b (pad ++ ⟨#[32, 32]⟩) ++ pad ++ ⟨#[125, 10]⟩).size ≤ _
      simp only [ByteArray.size_append, bz, List.size_toArray, List.length_cons, List.length_nil, cnt, cnts]
      omega
    | ifs h c b d hk hc hb hd2 hs2 hm =>
      subst h hk hm
      have := exS_size _ hc.good
      have := more b (by simp) hb
      have := more d (by simp) hd2
      rw [exSs3, lnSs3, show ((([c, b, d] : List T)[2]?).map kidsEmpty).getD true = kidsEmpty d from rfl]
      cases kidsEmpty d with
      | true =>
        show (pad ++ ⟨#[105, 102, 32]⟩ ++ exS c ++ ⟨#[32, 123, 10]⟩ ++ lnS b (pad ++ ⟨#[32, 32]⟩) ++ pad ++ ⟨#[125, 10]⟩).size ≤ _
        simp only [ByteArray.size_append, bz, List.size_toArray, List.length_cons, List.length_nil, cnt, cnts]
        omega
      | false =>
        show (pad ++ ⟨#[105, 102, 32]⟩ ++ exS c ++ ⟨#[32, 123, 10]⟩ ++ lnS b (pad ++ ⟨#[32, 32]⟩) ++ pad ++ ⟨#[125, 32, 101, 108, 115, 101, 32, 123, 10]⟩ ++ lnS d (pad ++ ⟨#[32, 32]⟩) ++ pad ++ ⟨#[125, 10]⟩).size ≤ _
        simp only [ByteArray.size_append, bz, List.size_toArray, List.length_cons, List.length_nil, cnt, cnts]
        omega
  · obtain ⟨h1, h2⟩ := hg
    have h2' : k = 30 := h2
    subst h2'
    obtain ⟨_, _, r3⟩ := block_shape h1
    rw [lnS_eq]
    have := cat_size kk (pad := pad) (fun t ht => ih t ht (.inl (r3 t ht)) pad (by have := hd t ht; omega))
    show (catS (lnSs kk pad)).size ≤ _
    simp only [cnt]
    omega
  · rw [lnS_eq]
    cases decl_shape hg with
    | var h hk hn hm =>
      subst h hk hm
      show (pad ++ ⟨#[118, 97, 114, 32]⟩ ++ s ++ ⟨#[59, 10]⟩).size ≤ _
      simp only [ByteArray.size_append, bz, List.size_toArray, List.length_cons, List.length_nil, cnt, cnts]
      omega
    | arr h hk hn h0 h1 =>
      subst h hk
      have := num_size h1
      show (pad ++ ⟨#[97, 114, 114, 97, 121, 32]⟩ ++ s ++ ⟨#[91]⟩ ++ numS m ++ ⟨#[93, 59, 10]⟩).size ≤ _
      simp only [ByteArray.size_append, bz, List.size_toArray, List.length_cons, List.length_nil, cnt, cnts]
      omega
  · obtain ⟨h1, h2⟩ := hg
    have h2' : k = 40 := h2
    subst h2'
    obtain ⟨_, _, ds, ss, r3, g1, g2⟩ := prog_shape h1
    rw [lnS_eq]
    have := cat_size kk (pad := pad) (fun t ht => by
      refine ih t ht ?_ pad (by have := hd t ht; omega)
      rw [r3] at ht
      rcases List.mem_append.1 ht with q | q
      · exact .inr (.inr (.inl (g1 t q)))
      · rw [List.mem_singleton] at q
        subst q
        obtain ⟨_, a2⟩ := kid_of h1 (j := ds.length) (t := .node 30 nil_ 0 ss) (by rw [r3]; simp)
        exact .inr (.inl ⟨a2, rfl⟩))
    show (catS (lnSs kk pad)).size ≤ _
    simp only [cnt]
    omega
end Go.Proofs.YtpebfdplapeejaaGreatDoor
namespace Go.Proofs.YtpebfdplapeejaaGreatDoor
open Go.RowKit
open Pl

end Go.Proofs.YtpebfdplapeejaaGreatDoor
namespace Go.Proofs.YtpebfdplapeejaaGreatDoor
open Go.RowKit
open Pl

theorem lnSs_len (kk : List T) (p : ByteArray) : (lnSs kk p).length = kk.length := by
  induction kk with
  | nil => rfl
  | cons x r ih => simp only [lnSs, List.length_cons, ih]
theorem catS_app (p q : List ByteArray) : catS (p ++ q) = catS p ++ catS q := by
  induction p with
  | nil => simp only [List.nil_append, catS]; exact ByteArray.empty_append.symm
  | cons x r ih => simp only [List.cons_append, catS, ih, ByteArray.append_assoc]
theorem lnSs_get {kk : List T} {j : Nat} {t : T} (h : kk[j]? = some t) (p : ByteArray) : (lnSs kk p)[j]? = some (lnS t p) := by
  induction kk generalizing j with
  | nil => simp at h
  | cons x r ih =>
    cases j with
    | zero => simp at h; subst h; simp [lnSs]
    | succ j => simp at h; simp only [lnSs, List.getElem?_cons_succ]; exact ih h
theorem cat_step {kk : List T} {j : Nat} {t : T} (h : kk[j]? = some t) (p : ByteArray) : catS ((lnSs kk p).take (j + 1)) = catS ((lnSs kk p).take j) ++ lnS t p := by
  rw [List.take_add_one, lnSs_get h, catS_app]
  simp only [Option.toList_some, catS]
  rw [show (⟨#[]⟩ : ByteArray) = ByteArray.empty from rfl, ByteArray.append_empty]
end Go.Proofs.YtpebfdplapeejaaGreatDoor
namespace Go.Proofs.YtpebfdplapeejaaGreatDoor
open Go.RowKit
open Pl

def padL (n : Nat) : List UInt8 := List.replicate (2 * n) 32
def padB (n : Nat) : ByteArray := ⟨(padL n).toArray⟩
theorem padL_succ (n : Nat) : padL (n + 1) = padL n ++ [32, 32] := by
  unfold padL
  rw [show 2 * (n + 1) = 2 * n + 2 by omega, ← List.replicate_append_replicate]
  rfl
theorem padL_len (n : Nat) : (padL n).length = 2 * n := by unfold padL; simp
theorem padB_list (n : Nat) : (padB n).data.toList = padL n := by unfold padB; simp
theorem padB_succ (n : Nat) : padB (n + 1) = padB n ++ ⟨#[32, 32]⟩ := by
  apply ByteArray.ext
  apply Array.ext'
  rw [padB_list, padL_succ, toL_app, padB_list]
theorem padB_zero : padB 0 = ⟨#[]⟩ := rfl
theorem padB_size (n : Nat) : (padB n).size = 2 * n := by rw [Lib.size_eq, padB_list, padL_len]
theorem IsPr.deep {dp : Int} {B b : Nat} {bs : List Value} {w : World} (h : IsPr dp B b bs w) : w.cell? ⟨b, 2, none⟩ = some (.int .i64 dp) ∧ w.frozen? ⟨b, 2, none⟩ = false := by
  rcases h with ⟨_, v, hb, _⟩ | ⟨_, v, hb, _⟩
  · exact ⟨by rw [Lib.cell_of_heap hb]; rfl, Lib.frozen_of_heap hb 2⟩
  · exact ⟨by rw [Lib.cell_of_heap hb]; rfl, Lib.frozen_of_heap hb 2⟩
theorem PrAt.setDeep {dp : Int} {B b : Nat} {p : Value} {bs : List Value} {w : World} (h : PrAt dp B b p bs w) (d2 : Int) : PrAt d2 B b p bs (w.setCell ⟨b, 2, none⟩ (.int .i64 d2)) := by
  obtain ⟨hB, v, hb, hown, hne⟩ := h
  refine ⟨hB, v, ?_, ?_, hne⟩
  · simp [World.setCell, Array.getElem?_modify, hb]
  · exact hown.kept (row := some b) ⟨rfl, rfl, rfl, by simp [World.setCell], fun k _ hk => Below.heap_setCell _ _ _ _ (fun e => hk (by simp [e]))⟩ (Or.inr hne)
theorem IsPr.setDeep {dp : Int} {B b : Nat} {bs : List Value} {w : World} (h : IsPr dp B b bs w) (d2 : Int) : IsPr d2 B b bs (w.setCell ⟨b, 2, none⟩ (.int .i64 d2)) := h.elim (fun x => .inl (x.setDeep d2)) (fun x => .inr (x.setDeep d2))
theorem IsPr.ge {dp : Int} {B b : Nat} {bs : List Value} {w : World} (h : IsPr dp B b bs w) : B ≤ b := h.elim (fun x => x.1) (fun x => x.1)
theorem Around.setDeep {W0 : World} {dp : Int} {B b : Nat} {l : List UInt8} {w : World} (h : Around W0 dp B b l w) (d2 : Int) : Around W0 d2 B b l (w.setCell ⟨b, 2, none⟩ (.int .i64 d2)) :=
  ⟨h.pr.setDeep d2, h.old.setCell (p := ⟨b, 2, none⟩) (Nat.le_trans h.lo h.pr.ge) _, h.lo, Nat.le_trans h.hi (by simp [World.setCell]), h.tab⟩
set_option maxRecDepth 100000 in
set_option maxHeartbeats 2000000 in
theorem indent_any (W0 : World) (n : Nat) (B b : Nat) (l : List UInt8) (w : World) (h : Around W0 (n : Int) B b l w) (hn : n ≤ 1000) (hl : l.length + 2 * n ≤ 100000000000000) : Calls Tryz.prog 77 #[.pointer (some ⟨b, 0, none⟩)] w (Wrote (n : Int) B b (l ++ padL n) w) := by
  obtain ⟨d0, _⟩ := h.pr.deep
  have H := mkHid h
  clear h
  go_enter Tryz.func77, Tryz.ntmps77
  go_wp2
  go_loopw [6] (fun i w' => ∃ (j : Nat), j ≤ n ∧ i = .int .i64 j ∧ Around W0 (n : Int) B b (l ++ padL j) w' ∧ Below B w w' ∧ Lib.OthersKept 5 (some b) w w') (fun i _ => n - (intOf i).toNat)
  case atStart => exact ⟨0, Nat.zero_le _, rfl, by simpa [padL] using H.out, Below.refl _ _, Lib.OthersKept.refl _ _ _⟩
  case round =>
    obtain ⟨j, hj, rfl, h1, h2, h3⟩ := hrel
    have H1 := mkHid h1
    have H2 := mkHid h2
    have H3 := mkHid h3
    clear h1 h2 h3
    by_cases hlt : j < n
    · go_wp2_with fail
      refine (put_new W0 _ B b _ [⟨#[32, 32]⟩] #[.string ⟨#[32, 32]⟩] _ _ rfl H1.out (by rw [List.length_append, padL_len]; simp [cat]; omega) (by simp) rfl).mono ?_
      rintro e w2 ⟨rfl, hp, hb, hk⟩
      have A2 := mkHid (show Around W0 (n : Int) B b (l ++ padL (j + 1)) w2 from by
        rw [padL_succ, ← List.append_assoc]
        exact H1.out.step hp hb)
      have K2 := mkHid (H2.out.trans hb)
      have O2 := mkHid (H3.out.trans hk)
      clear hp hb hk
      go_wp2
      go_roundw
      case rel => exact ⟨j + 1, by omega, by go_num, A2.out, K2.out, O2.out⟩
      case measure => simp [intOf]; omega
    · have e : j = n := by omega
      subst e
      go_wp2
      go_end0
      exact ⟨rfl, H1.out.pr, H2.out, H3.out⟩
/-- A line without what stands ahead of it and behind it. -/
def inT (t : T) (n : Nat) : List UInt8 := ((lnS t (padB n)).data.toList.drop (2 * n)).dropLast
theorem inT_of {t : T} {n : Nat} {l : List UInt8} (h : (lnS t (padB n)).data.toList = padL n ++ l ++ [10]) : inT t n = l := by
  unfold inT
  rw [h, List.append_assoc, List.drop_append_of_le_length (by rw [padL_len]; exact Nat.le_refl _), List.drop_of_length_le (by rw [padL_len]; exact Nat.le_refl _), List.nil_append, List.dropLast_concat]
def PLn (t : T) : Prop := match t with
  | .node k s m kk => ∀ (W0 : World) (n : Nat) (B b : Nat) (l : List UInt8) (a : Option Addr) (c : Nat) (w : World), cnt t ≤ 500 → 2 * n + 2 * dep t ≤ 1000 → Kids W0 0 a kk → Around W0 (n : Int) B b l w → l.length + (inT t n).length ≤ 100000000000000 →
    Calls Tryz.prog 78 #[.pointer (some ⟨b, 0, none⟩), .agg #[.int .i64 k, .string s, .int .i64 m, .slice a kk.length c]] w (Wrote (n : Int) B b (l ++ inT t n) w)
end Go.Proofs.YtpebfdplapeejaaGreatDoor
namespace Go.Proofs.YtpebfdplapeejaaGreatDoor
open Go.RowKit
open Pl

/-- What has one line, or more, of its own. -/
def GoodI (t : T) : Prop := GoodS t ∨ GoodD t
/-- The text of such a thing, taken apart. -/
def Apart (t : T) : Prop := ∀ n : Nat, (lnS t (padB n)).data.toList = padL n ++ inT t n ++ [10]
theorem Apart.size {t : T} (h : Apart t) (n : Nat) : (lnS t (padB n)).size = 2 * n + (inT t n).length + 1 := by
  rw [Lib.size_eq, h n]
  simp [padL_len]
  omega
theorem cat_len (kk : List T) (p : ByteArray) (j : Nat) : (catS ((lnSs kk p).take j)).size ≤ (catS (lnSs kk p)).size := by
  have : lnSs kk p = (lnSs kk p).take j ++ (lnSs kk p).drop j := (List.take_append_drop _ _).symm
  conv => rhs; rw [this]
  rw [catS_app, ByteArray.size_append]
  omega
set_option maxRecDepth 100000 in
set_option maxHeartbeats 4000000 in
theorem lines_of (kk : List T) (b0 o c : Nat) (IH : ∀ t ∈ kk, PLn t ∧ Apart t) (W0 : World) (n : Nat) (B b : Nat) (l : List UInt8) (w : World) (hc : ∀ t ∈ kk, cnt t ≤ 500) (hd : ∀ t ∈ kk, 2 * n + 2 * dep t ≤ 1000) (hn : n ≤ 1000) (hm : kk.length ≤ 1000000) (hk : LiesL W0 0 kk b0 o) (har : Around W0 (n : Int) B b l w)
    (hl : l.length + (catS (lnSs kk (padB n))).size ≤ 100000000000000) : Calls Tryz.prog 67 #[.pointer (some ⟨b, 0, none⟩), .slice (some ⟨b0, o, none⟩) kk.length c] w (Wrote (n : Int) B b (l ++ (catS (lnSs kk (padB n))).data.toList) w) := by
  have HI := mkHid IH
  have HC := mkHid hc
  have HD := mkHid hd
  have HK := mkHid hk
  have HA := mkHid har
  have HL := mkHid hl
  have HG := mkHid (show catS (lnSs kk (padB n)) = catS ((lnSs kk (padB n)).take kk.length) from by rw [List.take_of_length_le (by rw [lnSs_len]; exact Nat.le_refl _)])
  clear IH hc hd hk har hl
  go_enter Tryz.func67, Tryz.ntmps67
  go_wp2
  go_loopw [8] (fun i w' => ∃ (j : Nat), j ≤ kk.length ∧ i = .int .i64 j ∧ Around W0 (n : Int) B b (l ++ (catS ((lnSs kk (padB n)).take j)).data.toList) w' ∧ Below B w w' ∧ Lib.OthersKept 5 (some b) w w') (fun i _ => kk.length - (intOf i).toNat)
  case atStart => exact ⟨0, Nat.zero_le _, rfl, by simpa [catS] using HA.out, Below.refl _ _, Lib.OthersKept.refl _ _ _⟩
  case round =>
    obtain ⟨j, hj, rfl, h1, h2, h3⟩ := hrel
    have H1 := mkHid h1
    have H2 := mkHid h2
    have H3 := mkHid h3
    clear h1 h2 h3 HA
    by_cases hlt : j < kk.length
    · obtain ⟨x, hx⟩ : ∃ x, kk[j]? = some x := ⟨_, List.getElem?_eq_getElem hlt⟩
      have hxm := List.mem_of_getElem? hx
      have HST := mkHid (cat_step hx (padB n))
      have hap := (HI.out x hxm).2
      have HAP := mkHid (hap n)
      have hsz := hap.size n
      have hbnd : l.length + (catS ((lnSs kk (padB n)).take j)).size + (2 * n + (inT x n).length + 1) ≤ 100000000000000 := by
        have e1 := cat_len kk (padB n) (j + 1)
        rw [HST.out, ByteArray.size_append, hsz] at e1
        have e2 := HL.out
        omega
      have hq : (catS ((lnSs kk (padB n)).take j)).data.toList.length = (catS ((lnSs kk (padB n)).take j)).size := (Lib.size_eq _).symm
      have HX := mkHid (And.intro (HI.out x hxm).1 (And.intro (HC.out x hxm) (HD.out x hxm)))
      obtain ⟨xk, xs, xm, xkk⟩ := x
      obtain ⟨xa, xc, hc0, hc1, hc2, hc3, hs, hkn, hkids⟩ := HK.out.at hx
      have hbw : b0 < W0.heap.size := World.block_lt_of_cell? W0 _ hc0
      have q0 := (H1.out.old.cell (p := ⟨b0, _, none⟩) hbw).trans hc0
      have q1 := (H1.out.old.cell (p := ⟨b0, _, none⟩) hbw).trans hc1
      have q2 := (H1.out.old.cell (p := ⟨b0, _, none⟩) hbw).trans hc2
      have q3 := (H1.out.old.cell (p := ⟨b0, _, none⟩) hbw).trans hc3
      have HKX := mkHid hkids
      have i0 : (0 : Int) ≤ (j : Int) := by omega
      have i1 : (j : Int) < (kk.length : Int) := by omega
      have A1 := mkHid (H1.out.alloc (.cells #[.int .i64 xk, .string xs, .int .i64 xm, .slice xa xkk.length xc] 33))
      have X1 := mkHid (World.heap_alloc_new wr #[.int .i64 xk, .string xs, .int .i64 xm, .slice xa xkk.length xc] 33)
      have hnb : wr.heap.size ≠ b := by have := H1.out.pr.lt; omega
      have K1 := mkHid (H2.out.trans ((Below.refl B wr).alloc H1.out.hi (.cells #[.int .i64 xk, .string xs, .int .i64 xm, .slice xa xkk.length xc] 33)))
      have O1 := mkHid (H3.out.trans ((Lib.OthersKept.refl 5 (some b) wr).alloc (.cells #[.int .i64 xk, .string xs, .int .i64 xm, .slice xa xkk.length xc] 33)))
      clear hx hxm hap hs hkn hkids hc0 hc1 hc2 hc3 hbw H1 H2 H3
      generalize catS ((lnSs kk (padB n)).take j) = Q at HST hbnd hq A1
      go_wp2_with fail
      refine (indent_any W0 n B b _ _ A1.out hn (by rw [List.length_append]; omega)).mono ?_
      rintro e w2 ⟨rfl, hp, hb, hk2⟩
      have A2 := mkHid (A1.out.step hp hb)
      have X2 := mkHid (node_kept X1.out hnb hk2)
      have K2 := mkHid (K1.out.trans hb)
      have O2 := mkHid (O1.out.trans hk2)
      clear hp hb hk2 A1 X1 K1 O1 q0 q1 q2 q3
      obtain ⟨x0, x1, x2, x3, _⟩ := four_of X2.out
      go_wp2_with fail
      refine (HX.out.1 W0 n B b _ xa xc _ HX.out.2.1 HX.out.2.2 HKX.out A2.out (by rw [List.length_append, List.length_append, padL_len]; omega)).mono ?_
      rintro e w3 ⟨rfl, hp, hb, hk2⟩
      have A3 := mkHid (A2.out.step hp hb)
      have K3 := mkHid (K2.out.trans hb)
      have O3 := mkHid (O2.out.trans hk2)
      clear hp hb hk2 A2 X2 K2 O2 x0 x1 x2 x3
      go_wp2_with fail
      refine (put_new W0 _ B b _ [⟨#[10]⟩] #[.string ⟨#[10]⟩] _ _ rfl A3.out (by rw [show (cat [(⟨#[10]⟩ : ByteArray)]).length = 1 from rfl, List.length_append, List.length_append, List.length_append, padL_len]; omega) (by simp) rfl).mono ?_
      rintro e w4 ⟨rfl, hp, hb, hk2⟩
      have A4 := mkHid (show Around W0 (n : Int) B b (l ++ (catS ((lnSs kk (padB n)).take (j + 1))).data.toList) w4 from by
        have := A3.out.step hp hb
        rw [HST.out, toL_app, HAP.out]
        simp only [cat, List.flatMap_cons, List.flatMap_nil, List.append_nil, List.append_assoc] at this ⊢
        exact this)
      have K4 := mkHid (K3.out.trans hb)
      have O4 := mkHid (O3.out.trans hk2)
      clear hp hb hk2 A3 K3 O3
      go_wp2
      go_roundw
      case rel => exact ⟨j + 1, by omega, by go_num, A4.out, K4.out, O4.out⟩
      case measure => simp [intOf]; omega
    · have e : j = kk.length := by omega
      subst e
      have hp := H1.out.pr
      rw [← HG.out] at hp
      have HP := mkHid hp
      clear hp
      go_wp2
      go_end0
      exact ⟨rfl, HP.out, H2.out, H3.out⟩
set_option maxRecDepth 100000 in
set_option maxHeartbeats 2000000 in
theorem lines_nil (a : Option Addr) (c : Nat) (W0 : World) (n : Nat) (B b : Nat) (l : List UInt8) (w : World) (har : Around W0 (n : Int) B b l w) : Calls Tryz.prog 67 #[.pointer (some ⟨b, 0, none⟩), .slice a 0 c] w (Wrote (n : Int) B b l w) := by
  have HP := mkHid har.pr
  clear har
  go_enter Tryz.func67, Tryz.ntmps67
  go_wp2
  go_loopw [8] (fun i w' => i = .int .i64 0 ∧ w' = w) (fun i _ => 0)
  case atStart => exact ⟨rfl, rfl⟩
  case round =>
    obtain ⟨rfl, rfl⟩ := hrel
    go_wp2
    go_end0
    exact ⟨rfl, HP.out, Below.refl _ _, Lib.OthersKept.refl _ _ _⟩
theorem lines_any (kk : List T) (a : Option Addr) (c : Nat) (IH : ∀ t ∈ kk, PLn t ∧ Apart t) (W0 : World) (n : Nat) (B b : Nat) (l : List UInt8) (w : World) (hc : ∀ t ∈ kk, cnt t ≤ 500) (hd : ∀ t ∈ kk, 2 * n + 2 * dep t ≤ 1000) (hn : n ≤ 1000) (hm : kk.length ≤ 1000000) (hk : Kids W0 0 a kk) (har : Around W0 (n : Int) B b l w)
    (hl : l.length + (catS (lnSs kk (padB n))).size ≤ 100000000000000) : Calls Tryz.prog 67 #[.pointer (some ⟨b, 0, none⟩), .slice a kk.length c] w (Wrote (n : Int) B b (l ++ (catS (lnSs kk (padB n))).data.toList) w) := by
  rcases hk with rfl | ⟨b0, o, rfl, _, hl2⟩
  · have := lines_nil a c W0 n B b l w har
    simpa [lnSs, catS] using this
  · exact lines_of kk b0 o c IH W0 n B b l w hc hd hn hm hl2 har hl
set_option maxRecDepth 100000 in
set_option maxHeartbeats 4000000 in
theorem block_any (s : ByteArray) (m : Int) (kk : List T) (a : Option Addr) (c : Nat) (IH : ∀ t ∈ kk, PLn t ∧ Apart t) (W0 : World) (n : Nat) (B b : Nat) (l : List UInt8) (w : World) (hc : ∀ t ∈ kk, cnt t ≤ 500) (hd : ∀ t ∈ kk, 2 * (n + 1) + 2 * dep t ≤ 1000) (hn : n ≤ 900) (hm : kk.length ≤ 1000000) (hk : Kids W0 0 a kk) (har : Around W0 (n : Int) B b l w)
    (hl : l.length + (catS (lnSs kk (padB (n + 1)))).size + 2 * n + 4 ≤ 100000000000000) : Calls Tryz.prog 88 #[.pointer (some ⟨b, 0, none⟩), .agg #[.int .i64 30, .string s, .int .i64 m, .slice a kk.length c]] w (Wrote (n : Int) B b (l ++ ([32, 123, 10] ++ (catS (lnSs kk (padB (n + 1)))).data.toList ++ padL n ++ [125])) w) := by
  have hq : (catS (lnSs kk (padB (n + 1)))).data.toList.length = (catS (lnSs kk (padB (n + 1)))).size := (Lib.size_eq _).symm
  have HLS := mkHid (fun l w har hl => lines_any kk a c IH W0 (n + 1) B b l w hc hd (by omega) hm hk har hl)
  generalize catS (lnSs kk (padB (n + 1))) = Q at hq hl HLS ⊢
  have A1 := mkHid (har.alloc (.cells #[.int .i64 30, .string s, .int .i64 m, .slice a kk.length c] 33))
  have X1 := mkHid (World.heap_alloc_new w #[.int .i64 30, .string s, .int .i64 m, .slice a kk.length c] 33)
  have hnb : w.heap.size ≠ b := by have := har.pr.lt; omega
  have K1 := mkHid ((Below.refl B w).alloc har.hi (.cells #[.int .i64 30, .string s, .int .i64 m, .slice a kk.length c] 33))
  have O1 := mkHid ((Lib.OthersKept.refl 5 (some b) w).alloc (.cells #[.int .i64 30, .string s, .int .i64 m, .slice a kk.length c] 33))
  clear har hk IH hc hd
  go_enter Tryz.func88, Tryz.ntmps88
  go_wp2_with fail
  refine (put_new W0 _ B b _ [⟨#[32, 123, 10]⟩] #[.string ⟨#[32, 123, 10]⟩] _ _ (by simp) A1.out (by simp [cat]; omega) (by simp) rfl).mono ?_
  rintro e w2 ⟨rfl, hp, hb, hk2⟩
  have A2 := mkHid (A1.out.step hp hb)
  have X2 := mkHid (node_kept X1.out hnb hk2)
  have K2 := mkHid (K1.out.trans hb)
  have O2 := mkHid (O1.out.trans hk2)
  obtain ⟨d2, f2⟩ := A2.out.pr.deep
  have B3 := A2.out.setDeep ((n + 1 : Nat) : Int)
  have hcast : ((n + 1 : Nat) : Int) = (n : Int) + 1 := by omega
  have A3 := mkHid B3
  have X3 := mkHid ((Below.heap_setCell w2 ⟨b, 2, none⟩ (.int .i64 ((n + 1 : Nat) : Int)) w.heap.size hnb).trans X2.out)
  have K3 := mkHid (K2.out.setCell (p := ⟨b, 2, none⟩) A2.out.pr.ge (.int .i64 ((n + 1 : Nat) : Int)))
  have O3 := mkHid (O2.out.setCell ⟨b, 2, none⟩ rfl (.int .i64 ((n + 1 : Nat) : Int)))
  obtain ⟨x0, x1, x2, x3, _⟩ := four_of X2.out
  have ne1 : ¬ (b = w.heap.size) := fun e => hnb e.symm
  clear hp hb hk2 A1 X1 K1 O1 B3
  go_wp2_with fail
  rw [← hcast]
  refine (HLS.out _ _ A3.out (by rw [List.length_append]; simp [cat]; omega)).mono ?_
  rintro e w4 ⟨rfl, hp, hb, hk2⟩
  have A4 := mkHid (A3.out.step hp hb)
  have K4 := mkHid (K3.out.trans hb)
  have O4 := mkHid (O3.out.trans hk2)
  obtain ⟨d4, f4⟩ := A4.out.pr.deep
  have A5 := mkHid (A4.out.setDeep (n : Int))
  have K5 := mkHid (K4.out.setCell (p := ⟨b, 2, none⟩) A4.out.pr.ge (.int .i64 (n : Int)))
  have O5 := mkHid (O4.out.setCell ⟨b, 2, none⟩ rfl (.int .i64 (n : Int)))
  have hw1 : IntKind.i64.wrap (((n + 1 : Nat) : Int) - 1) = (n : Int) := by rw [IntKind.wrap_i64]; omega
  clear hp hb hk2 A2 X2 K2 O2 A3 X3 K3 O3 A4 K4 O4 x0 x1 x2 x3 d2 f2 hcast
  go_wp2_with fail
  refine (indent_any W0 n B b _ _ A5.out (by omega) (by rw [List.length_append, List.length_append]; simp [cat]; omega)).mono ?_
  rintro e w6 ⟨rfl, hp, hb, hk2⟩
  have A6 := mkHid (A5.out.step hp hb)
  have K6 := mkHid (K5.out.trans hb)
  have O6 := mkHid (O5.out.trans hk2)
  clear hp hb hk2 A5 K5 O5 d4 f4
  go_wp2_with fail
  refine (put_new W0 _ B b _ [⟨#[125]⟩] #[.string ⟨#[125]⟩] _ _ rfl A6.out (by rw [List.length_append, List.length_append, List.length_append, padL_len]; simp [cat]; omega) (by simp) rfl).mono ?_
  rintro e w7 ⟨rfl, hp, hb, hk2⟩
  have M1 := mkHid (show IsPr (n : Int) B b (Lib.byteCells (l ++ ([32, 123, 10] ++ Q.data.toList ++ padL n ++ [125]))) w7 from by
    have := hp
    simp only [cat, List.flatMap_cons, List.flatMap_nil, List.append_nil, List.append_assoc] at this ⊢
    exact this)
  have M2 := mkHid (K6.out.trans hb)
  have M3 := mkHid (O6.out.trans hk2)
  clear hp hb hk2 A6 K6 O6
  go_wp2
  go_end0
  exact ⟨rfl, M1.out, M2.out, M3.out⟩
end Go.Proofs.YtpebfdplapeejaaGreatDoor
