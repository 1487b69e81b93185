/- Circuits in memory, as plain data; what the table of defined variables says. -/
import Derived.Test.YtahjmkdpnkffhaaSpan
namespace Go.Proofs.Ytahjmkdpnkffhaa
open Go.RowKit

/-- A circuit as plain data. -/
structure Circ where
  max : Int
  inputs : List Int
  latches : List Tri
  outputs : List Int
  bads : List Int
  constraints : List Int
  justice : List (List Int)
  fairness : List Int
  ands : List Tri
  symbols : List Sym
  comments : List ByteArray
/-- The values of a circuit's lists. -/
structure CV where
  i : Value
  l : Value
  o : Value
  b : Value
  c : Value
  j : Value
  f : Value
  a : Value
  s : Value
  t : Value
abbrev CV.cells (V : CV) (m : Int) : Array Value := #[.int .i64 m, V.i, V.l, V.o, V.b, V.c, V.j, V.f, V.a, V.s, V.t]
abbrev CV.val (V : CV) (m : Int) : Value := .agg (V.cells m)

/-- A list of lists of numbers. -/
def Lists (w : World) (v : Value) (zss : List (List Int)) : Prop :=
  ∃ vs : List Value, RowE 1 encV w v vs ∧ vs.length = zss.length ∧ ∀ (i : Nat) (u : Value) (zs : List Int), vs[i]? = some u → zss[i]? = some zs → RowE 1 encI w u zs
theorem Lists.below {w w' : World} {v : Value} {zss : List (List Int)} (h : Lists w v zss) (hb : Below w.heap.size w w') : Lists w' v zss := by
  obtain ⟨vs, h1, h2, h3⟩ := h
  exact ⟨vs, h1.below hb, h2, fun i u zs hu hz => (h3 i u zs hu hz).below hb⟩

/-- A number of the kind int. -/
def I64 (z : Int) : Prop := -9223372036854775808 ≤ z ∧ z ≤ 9223372036854775807
theorem I64.half {l : Int} (h : I64 l) (h0 : 0 ≤ l) : wrap64 (l.tdiv 2) = l / 2 := by
  obtain ⟨h1, h2⟩ := h
  rw [Int.tdiv_eq_ediv_of_nonneg h0]
  simp only [wrap64]; omega
def I64T (z : Tri) : Prop := I64 z.1 ∧ I64 z.2.1 ∧ I64 z.2.2
structure Circ.Ok (C : Circ) : Prop where
  max : I64 C.max
  i : ∀ z ∈ C.inputs, I64 z
  l : ∀ z ∈ C.latches, I64T z
  o : ∀ z ∈ C.outputs, I64 z
  b : ∀ z ∈ C.bads, I64 z
  c : ∀ z ∈ C.constraints, I64 z
  j : ∀ zs ∈ C.justice, ∀ z ∈ zs, I64 z
  f : ∀ z ∈ C.fairness, I64 z
  a : ∀ z ∈ C.ands, I64T z
  s : ∀ z ∈ C.symbols, 0 ≤ z.kind ∧ z.kind ≤ 255 ∧ I64 z.at_
  sn : ∀ z ∈ C.symbols, z.name.size ≤ maxLen

/-- The lists of V read as the circuit's. -/
structure Circ.In (w : World) (V : CV) (C : Circ) : Prop where
  i : RowE 1 encI w V.i C.inputs
  l : RowE 3 encT w V.l C.latches
  o : RowE 1 encI w V.o C.outputs
  b : RowE 1 encI w V.b C.bads
  c : RowE 1 encI w V.c C.constraints
  j : Lists w V.j C.justice
  f : RowE 1 encI w V.f C.fairness
  a : RowE 3 encT w V.a C.ands
  s : RowE 3 encS w V.s C.symbols
  t : RowE 1 encB w V.t C.comments
theorem Circ.In.below {w w' : World} {V : CV} {C : Circ} (h : C.In w V) (hb : Below w.heap.size w w') : C.In w' V :=
  ⟨h.i.below hb, h.l.below hb, h.o.below hb, h.b.below hb, h.c.below hb, h.j.below hb, h.f.below hb, h.a.below hb, h.s.below hb, h.t.below hb⟩

/-- Block g of the scratch is the table tb. -/
def Tab (w : World) (g : Nat) (tb : List Bool) : Prop := Blk w g 4 (tb.map Value.bool).toArray
theorem Tab.cell {w : World} {g : Nat} {tb : List Bool} (h : Tab w g tb) {i : Nat} {x : Bool} (hx : tb[i]? = some x) : w.cell? ⟨g, i, none⟩ = some (.bool x) := by
  rw [Blk.cell h]; simp [hx]
theorem Tab.set_ {w : World} {g : Nat} {tb : List Bool} (h : Tab w g tb) (i : Nat) (x : Bool) : Tab (w.setCell ⟨g, i, none⟩ (.bool x)) g (tb.set i x) := by
  have := Blk.set_ h i (.bool x)
  simpa [Tab, List.map_set] using this
theorem below_set {B g : Nat} {w w' : World} (h : Below B w w') (hg : B ≤ g) (i : Nat) (u : Value) : Below B w (w'.setCell ⟨g, i, none⟩ u) := h.setCell hg u

/-- What is wrong with a literal that is defined, that is used. -/
def defE (tb : List Bool) (l : Int) : Int := if l < 2 ∨ l % 2 = 1 ∨ (tb.length : Int) ≤ l / 2 then 30 else if tb.getD (l / 2).toNat false then 31 else 0
def defT (tb : List Bool) (l : Int) : List Bool := if defE tb l = 0 then tb.set (l / 2).toNat true else tb
def useE (tb : List Bool) (l : Int) : Int := if l < 0 ∨ (tb.length : Int) ≤ l / 2 then 30 else if tb.getD (l / 2).toNat false then 0 else 32
theorem defT_len (tb : List Bool) (l : Int) : (defT tb l).length = tb.length := by unfold defT; split <;> simp
/-- The first thing that is wrong, with its number. -/
def firstE {α : Type} (f : α → Int) : List α → Nat → Int × Int
  | [], _ => (0, 0)
  | x :: r, i => if f x = 0 then firstE f r (i + 1) else ((i : Int), f x)
def thenE (a b : Int × Int) : Int × Int := if a.2 = 0 then b else a
/-- Things that are defined, one behind the other: what is wrong first, and the table behind it. -/
def defAll {α : Type} (lit : α → Int) (bad : α → Int) : List α → Nat → List Bool → (Int × Int) × List Bool
  | [], _, tb => ((0, 0), tb)
  | x :: r, i, tb => if defE tb (lit x) = 0 then (if bad x = 0 then defAll lit bad r (i + 1) (defT tb (lit x)) else (((i : Int), bad x), defT tb (lit x))) else (((i : Int), defE tb (lit x)), tb)
theorem drop_one {α : Type} {xs : List α} {k : Nat} {x : α} (h : xs[k]? = some x) : xs.drop k = x :: xs.drop (k + 1) := by
  obtain ⟨hk, rfl⟩ := List.getElem?_eq_some_iff.1 h
  exact List.drop_eq_getElem_cons hk
theorem drop_all {α : Type} {xs : List α} {k : Nat} (h : xs.length ≤ k) : xs.drop k = [] := List.drop_eq_nil_of_le h
theorem tdiv_nn {a b : Int} (h : 0 ≤ a) : a.tdiv b = a / b := Int.tdiv_eq_ediv_of_nonneg h
end Go.Proofs.Ytahjmkdpnkffhaa
