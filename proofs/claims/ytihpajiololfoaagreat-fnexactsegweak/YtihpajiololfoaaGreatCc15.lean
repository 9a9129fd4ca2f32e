/-
  PURE: the program's dropping over a row of links against the specification's tidying.
  PURE: what SegDrop gives, by the program's links and by the specification's tidying.
  CONTRACT of the program's dropping of terms out of a row of links.
-/
import Derived.Test.YtihpajiololfoaaGreatCc13
import Derived.Test.YtihpajiololfoaaGreatCc12
import Derived.Test.YtihpajiololfoaaGreatCc14
import Derived.Test.YtihpajiololfoaaGreatCc04
import Derived.Test.YtihpajiololfoaaGreatCc08
namespace Go.Proofs.YtihpajiololfoaaGreat
open Go.RowKit

def jv (x y : VV) : VV := joinV x.1 x.2.1 x.2.2 y.1 y.2.1 y.2.2
def noneV : VV := (1, 0, true)
theorem jv_none {x : VV} (h : okB x.1 x.2.1 = true) : jv noneV x = x := by
 obtain ⟨a, b, s⟩ := x
 have h' : okB a b = true := h
 have h1 : okB 1 0 = true := by decide
 have h2 : isB 1 0 = false := by decide
 simp [jv, noneV, joinV, joinM, h', h1, h2]
/-- The program: the links that are left of at and those behind it (their bounds are already without the terms). -/
def dropK : Lk → List Lk → List Lk
 | at', [] => [at']
 | at', n :: r => if n.b = [] then dropK ⟨at'.b, jv at'.v n.v, at'.m && n.m⟩ r else at' :: dropK n r
/-- The specification: what is put out from the second bound on. -/
def tidyR (v : VV) (mb : Bool) : List (List Y) → List VV → List Bool → List (List Y) × List VV × List Bool
 | b :: B, x :: V, m :: M => if b = [] then tidyR (jv v x) (mb && m) B V M else
   (b :: (tidyR noneV true B V M).1, jv v x :: (tidyR noneV true B V M).2.1, (mb && m) :: (tidyR noneV true B V M).2.2)
 | _, _, _ => ([], [], [])
end Go.Proofs.YtihpajiololfoaaGreat
namespace Go.Proofs.YtihpajiololfoaaGreat
open Go.RowKit

def filL (G : List Y) (k : Lk) : Lk := ⟨outS k.b G, k.v, k.m⟩
def dropSG (lv : Int) (T : List Y) (S : SG) : SG :=
 match S.B.map (outD lv T) with
 | [] => noS
 | b :: B => ⟨b :: (tidyR noneV true B S.V S.M).1, (tidyR noneV true B S.V S.M).2.1, (tidyR noneV true B S.V S.M).2.2⟩
def segL (ks : List Lk) : SG := ⟨ks.map Lk.b, ks.dropLast.map Lk.v, ks.dropLast.map Lk.m⟩
end Go.Proofs.YtihpajiololfoaaGreat
namespace Go.Proofs.YtihpajiololfoaaGreat
open Go.RowKit

def sel {α : Type} (b : Bool) (x y : α) : α := match b with | true => x | false => y
theorem Ch.cut {w : World} {base : Nat} {x : Nat × Lk} {R : List (Nat × Lk)} {q : Option Addr} : ∀ {L : List (Nat × Lk)} {p : Option Addr}, Ch w base (L ++ x :: R) p q → Ch w base L p (some ⟨x.1, 0, none⟩) ∧ ∃ p', LinkO w base x.1 x.2 p' ∧ Ch w base R p' q
 | [], _, ⟨e, p', h1, h2⟩ => ⟨e, p', h1, h2⟩
 | _ :: _, _, ⟨e, p', h1, h2⟩ => by
  obtain ⟨a, b⟩ := Ch.cut h2
  exact ⟨⟨e, p', h1, a⟩, b⟩
/-- Below base nothing has turned, and nothing that is no link. -/
structure BK (base : Nat) (w w' : World) : Prop where
 bel : Below base w w'
 kt : ∀ (q : Nat) (o : Obj), w.heap[q]? = some o → (∀ cur, o ≠ .cells cur 130 (0, 0)) → w'.heap[q]? = some o
theorem BK.of {base : Nat} {w w' : World} (h : Below w.heap.size w w') (hb : base ≤ w.heap.size) : BK base w w' := ⟨h.mono hb, fun q _ ho _ => (h.block q (heap_lt ho)).trans ho⟩
theorem BK.step {base : Nat} {w a b : World} (h : BK base w a) (hb : Below a.heap.size a b) (hs : base ≤ a.heap.size) : BK base w b := ⟨h.bel.trans (hb.mono hs), fun q o ho hn => (hb.block q (heap_lt (h.kt q o ho hn))).trans (h.kt q o ho hn)⟩
theorem BK.only {base Z : Nat} {w a b : World} (h : BK base w a) (hO : Only Z a b) (hs : base ≤ a.heap.size) (hZ : base ≤ Z) (hT : ∃ cur, a.heap[Z]? = some (.cells cur 130 (0, 0))) : BK base w b :=
 ⟨Only.below h.bel hO hs hZ, fun q o ho hn => by
  have h1 := h.kt q o ho hn
  exact (hO.block q (heap_lt h1) (fun e => by cases e; obtain ⟨c, hc⟩ := hT; rw [hc] at h1; exact hn c (Option.some.inj h1).symm)).trans h1⟩
theorem BK.trans {base : Nat} {w a b : World} (h : BK base w a) (g : BK base a b) : BK base w b := ⟨h.bel.trans g.bel, fun q o ho hn => g.kt q o (h.kt q o ho hn) hn⟩
/-- What holds at the head of the loop. -/
structure DrI (w wr : World) (base Q X gb : Nat) (ag : Option Addr) (cg : Nat) (G : List Y) (F : List Lk) (L : List (Nat × Lk)) (Xa : Nat) (ka : Lk) (R : List (Nat × Lk)) : Prop where
 ch : Ch wr base (L ++ (Xa, ka) :: R) (some ⟨X, 0, none⟩) none
 nd : ((L ++ (Xa, ka) :: R).map Prod.fst).Nodup
 eq : L.map Prod.snd ++ dropK ka (R.map fun x => filL G x.2) = F
 bel : BK base w wr
 rd : RowsD wr ((L ++ (Xa, ka) :: R).map Prod.fst)
 bs : base ≤ wr.heap.size
 q : wr.heap[Q]? = some (.cells #[.slice ag G.length cg, .func (.func 132) #[] #[]] 127 (0, 0))
 og : Own eY 49 wr gb (.slice ag G.length cg) G
 len : ∀ x, x ∈ R → x.2.b.length ≤ 1048576
theorem DrI.below {w wr v : World} {base Q X gb : Nat} {ag : Option Addr} {cg : Nat} {G : List Y} {F : List Lk} {L : List (Nat × Lk)} {Xa : Nat} {ka : Lk} {R : List (Nat × Lk)} (h : DrI w wr base Q X gb ag cg G F L Xa ka R) (hb : Below wr.heap.size wr v) : DrI w v base Q X gb ag cg G F L Xa ka R :=
 ⟨h.ch.below hb, h.nd, h.eq, h.bel.step hb h.bs, h.ch.rows_below h.rd hb, Nat.le_trans h.bs hb.size, (hb.block Q (heap_lt h.q)).trans h.q, h.og.below hb, h.len⟩
end Go.Proofs.YtihpajiololfoaaGreat
