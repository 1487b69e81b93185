/- Lists of things of k cells each in memory: how a slice value reads as one, how a list of the call's own reads, and what is appended. Nothing here speaks of a function of the program. -/
import Derived.Test.YtahjmkdpnkffhaaWords
import Derived.Laws.MakeOwn
import Derived.LoopTactic
import Derived.Lib.Hide
import Derived.BigQuiet
import Derived.Deep.QuietTactic
import Derived.IntWalk
namespace Go.Proofs.Ytahjmkdpnkffhaa
open Go.RowKit

theorem add_none (b off k : Nat) : (⟨b, off, none⟩ : Addr).add k = ⟨b, off + k, none⟩ := by
  unfold Addr.add; split <;> simp_all
theorem bt {B : Nat} {a b c : World} (h1 : Below B a b) (hB : B ≤ a.heap.size) (h2 : Below b.heap.size b c) : Below B a c := h1.trans (h2.mono (Nat.le_trans hB h1.size))
theorem below_drewN {B : Nat} {a w : World} (h : Below B a w) (n : Nat) : Below B a (w.drewN n) := ⟨h.os, h.tape, h.output, h.size, h.block⟩
theorem ret_int {k : IntKind} {a b : Int} (h : a = b) : Ending.returned (.int k a) = .returned (.int k b) := by rw [h]
theorem ret_bool {a b : Bool} (h : a = b) : Ending.returned (.bool a) = .returned (.bool b) := by rw [h]

section
variable {E : Type}
/-- The address A begins a run of the things zs, of k cells each. -/
def Run (k : Nat) (enc : E → List Value) (w : World) (A : Option Addr) (zs : List E) : Prop :=
  ∀ i z, zs[i]? = some z → ∃ b off, A = some ⟨b, off, none⟩ ∧ b < w.heap.size ∧ ∀ j u, (enc z)[j]? = some u → w.cell? ⟨b, off + (i * k + j), none⟩ = some u
/-- The slice value v reads, in w, as the things zs. -/
def RowE (k : Nat) (enc : E → List Value) (w : World) (v : Value) (zs : List E) : Prop :=
  ∃ A c, v = .slice A zs.length c ∧ zs.length ≤ c ∧ c ≤ maxLen ∧ Run k enc w A zs

variable {k : Nat} {enc : E → List Value} {w w' : World} {v : Value} {A : Option Addr} {zs : List E}
theorem Run.below (h : Run k enc w A zs) (hb : Below w.heap.size w w') : Run k enc w' A zs := fun i z hz => by
  obtain ⟨b, off, e, h1, h2⟩ := h i z hz
  exact ⟨b, off, e, Nat.lt_of_lt_of_le h1 hb.size, fun j u hu => (hb.cell (p := ⟨b, off + (i * k + j), none⟩) h1).trans (h2 j u hu)⟩
theorem RowE.below (h : RowE k enc w v zs) (hb : Below w.heap.size w w') : RowE k enc w' v zs := by
  obtain ⟨A, c, e, h1, h2, h3⟩ := h
  exact ⟨A, c, e, h1, h2, h3.below hb⟩
theorem RowE.len (h : RowE k enc w v zs) : zs.length ≤ maxLen := by
  obtain ⟨A, c, e, h1, h2, h3⟩ := h
  exact Nat.le_trans h1 h2
theorem RowE.nil (w : World) (A : Option Addr) (c : Nat) (hc : c ≤ maxLen) : RowE k enc w (.slice A 0 c) ([] : List E) := ⟨A, c, rfl, Nat.zero_le _, hc, fun i z hz => by simp at hz⟩
theorem Run.some_ (h : Run k enc w A zs) (hn : 0 < zs.length) : ∃ b off, A = some ⟨b, off, none⟩ ∧ b < w.heap.size ∧ ∀ i z, zs[i]? = some z → ∀ j u, (enc z)[j]? = some u → w.cell? ⟨b, off + (i * k + j), none⟩ = some u := by
  obtain ⟨b, off, e, h1, _⟩ := h 0 zs[0] (List.getElem?_eq_getElem hn)
  refine ⟨b, off, e, h1, fun i z hz j u hu => ?_⟩
  obtain ⟨b', off', e', _, h2⟩ := h i z hz
  rw [e] at e'; cases e'
  exact h2 j u hu

theorem flat_get (hk : ∀ z, (enc z).length = k) : ∀ (zs : List E) (i : Nat) (z : E), zs[i]? = some z → ∀ j, j < k → (zs.flatMap enc)[i * k + j]? = (enc z)[j]? := by
  intro zs
  induction zs with
  | nil => intro i z hz; simp at hz
  | cons a r ih =>
    intro i z hz j hj
    rw [List.flatMap_cons]
    cases i with
    | zero =>
      simp at hz; subst hz
      rw [List.getElem?_append_left (by rw [hk]; omega)]; simp
    | succ i =>
      rw [List.getElem?_append_right (by rw [hk, Nat.succ_mul]; omega), hk, show (i + 1) * k + j - k = i * k + j by rw [Nat.succ_mul]; omega]
      exact ih i z (by simpa using hz) j hj
theorem flat_len (hk : ∀ z, (enc z).length = k) (zs : List E) : (zs.flatMap enc).length = zs.length * k := by
  induction zs with
  | nil => simp
  | cons a r ih => rw [List.flatMap_cons, List.length_append, hk, ih, List.length_cons, Nat.succ_mul]; omega

/-- What an append reads. -/
theorem RowE.reads (hk : ∀ z, (enc z).length = k) (h0 : 0 < k) (h : RowE k enc w v zs) : ∃ A c, v = .slice A zs.length c ∧ Reads w w.heap.size k A zs.length (zs.flatMap enc) := by
  obtain ⟨A, c, rfl, h1, h2, h3⟩ := h
  refine ⟨A, c, rfl, flat_len hk zs, fun hn => ?_⟩
  obtain ⟨b, off, rfl, hb, hcell⟩ := h3.some_ hn
  refine ⟨_, rfl, hb, fun j u hu => ?_⟩
  have hj : j < zs.length * k := by rw [← flat_len hk zs]; exact (List.getElem?_eq_some_iff.1 hu).1
  have hi : j / k < zs.length := Nat.div_lt_of_lt_mul (by rw [Nat.mul_comm]; exact hj)
  have hz := List.getElem?_eq_getElem hi
  have hm : j % k < k := Nat.mod_lt _ h0
  have e : j / k * k + j % k = j := by rw [Nat.mul_comm]; exact Nat.div_add_mod j k
  have hf := flat_get hk zs (j / k) _ hz (j % k) hm
  rw [e, hu] at hf
  have := hcell (j / k) _ hz (j % k) u hf.symm
  rw [e] at this
  rw [add_none]; exact this

/-- A list of the call's own reads. -/
theorem own_rowe (hk : ∀ z, (enc z).length = k) {B : Nat} {t : TypeId} (h : w.ownsRow B t k v zs.length (zs.flatMap enc)) : RowE k enc w v zs := by
  rcases h.2 with ⟨rfl, h0⟩ | ⟨g, cap, cur, rfl, hb, hg, h1, h2, h3, h4⟩
  · have : zs = [] := List.eq_nil_of_length_eq_zero h0
    subst this
    exact ⟨_, _, rfl, Nat.le_refl _, by simp [maxLen], fun i z hz => by simp at hz⟩
  · refine ⟨_, cap, rfl, h1, h2, fun i z hz => ⟨g, 0, rfl, (Array.getElem?_eq_some_iff.1 hg).1, fun j u hu => ?_⟩⟩
    have hj : j < k := by rw [← hk z]; exact (List.getElem?_eq_some_iff.1 hu).1
    have := h.cells (g := g) rfl (i * k + j) u (by rw [flat_get hk zs i z hz j hj]; exact hu)
    rwa [add_none] at this
theorem own_le {B B' n : Nat} {t : TypeId} {xs : List Value} (h : w.ownsRow B t k v n xs) (hb : B' ≤ B) : w.ownsRow B' t k v n xs := by
  refine ⟨h.1, ?_⟩
  rcases h.2 with h2 | ⟨g, cap, cur, hv, hB, h3⟩
  · exact .inl h2
  · exact .inr ⟨g, cap, cur, hv, by omega, h3⟩
theorem own_below {B n : Nat} {t : TypeId} {xs : List Value} (h : w.ownsRow B t k v n xs) (hb : Below w.heap.size w w') : w'.ownsRow B t k v n xs := by
  refine ⟨h.1, ?_⟩
  rcases h.2 with h2 | ⟨g, cap, cur, hv, hB, hg, h3⟩
  · exact .inl h2
  · exact .inr ⟨g, cap, cur, hv, hB, (hb.block g (Array.getElem?_eq_some_iff.1 hg).1).trans hg, h3⟩
theorem flat_one {f : E → List Value} (h1 : ∀ z, ∀ u ∈ f z, u.oneCell' = true) (zs : List E) : ∀ u ∈ zs.flatMap f, u.oneCell' = true := by
  intro u hu
  obtain ⟨z, _, hz⟩ := List.mem_flatMap.1 hu
  exact h1 z u hz
end

/-- The things themselves: numbers, triples of numbers, names of things, texts, lists. -/
abbrev Tri := Int × Int × Int
structure Sym where
  kind : Int
  at_ : Int
  name : ByteArray
deriving DecidableEq
abbrev encI (z : Int) : List Value := [.int .i64 z]
abbrev encT (z : Tri) : List Value := [.int .i64 z.1, .int .i64 z.2.1, .int .i64 z.2.2]
abbrev encS (z : Sym) : List Value := [.int .u8 z.kind, .int .i64 z.at_, .string z.name]
abbrev encB (z : ByteArray) : List Value := [.string z]
abbrev encV (z : Value) : List Value := [z]
theorem lenI (z : Int) : (encI z).length = 1 := rfl
theorem lenT (z : Tri) : (encT z).length = 3 := rfl
theorem lenS (z : Sym) : (encS z).length = 3 := rfl
theorem lenB (z : ByteArray) : (encB z).length = 1 := rfl
theorem lenV (z : Value) : (encV z).length = 1 := rfl
theorem oneI (z : Int) : ∀ u ∈ encI z, u.oneCell' = true := by simp [Value.oneCell']
theorem oneT (z : Tri) : ∀ u ∈ encT z, u.oneCell' = true := by simp [Value.oneCell']
theorem oneS (z : Sym) : ∀ u ∈ encS z, u.oneCell' = true := by simp [Value.oneCell']
theorem oneB (z : ByteArray) : ∀ u ∈ encB z, u.oneCell' = true := by simp [Value.oneCell']

theorem take_eq_succ' {E : Type} {xs ys : List E} {k : Nat} {x : E} (h1 : xs[k]? = some x) (h2 : ys[k]? = some x) (h : xs.take k = ys.take k) : xs.take (k + 1) = ys.take (k + 1) := by
  rw [List.take_add_one, List.take_add_one, h, h1, h2]
theorem take_all {E : Type} {xs ys : List E} {n : Nat} (h1 : xs.length = n) (h2 : ys.length = n) (h : xs.take n = ys.take n) : xs = ys := by
  rwa [List.take_of_length_le (by omega), List.take_of_length_le (by omega)] at h
end Go.Proofs.Ytahjmkdpnkffhaa
