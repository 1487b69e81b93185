/- The normal form of a clause, in plain words: a list whose variables rise and that has the clause's literals; there is at most one. What sorting and compacting make of a clause is in order; whether it is the normal form, its neighbours tell. -/
import Derived.Test.YtcppmjgglcobcaaCmp
import Derived.Lib.SlicesCompact
import Derived.Lib.RowBridge
namespace Go.Proofs.Ytcppmjgglcobcaa
open Go.RowKit Go.Shelf Go.Lib Go.Sort

/-- ns is the normal form of zs. -/
def NF (zs ns : List Int) : Prop := ns.Pairwise (fun a b => absI a < absI b) ∧ ∀ x, x ∈ ns ↔ x ∈ zs

/-- zs has a literal and its negation. -/
def taut (zs : List Int) : Bool := decide (∃ x ∈ zs, -x ∈ zs)
theorem taut_true {zs : List Int} : taut zs = true ↔ ∃ x ∈ zs, -x ∈ zs := by unfold taut; exact decide_eq_true_iff
theorem taut_false {zs : List Int} : taut zs = false ↔ ∀ x ∈ zs, -x ∉ zs := by
  rw [← Bool.not_eq_true, taut_true]
  constructor
  · intro h x hx hn; exact h ⟨x, hx, hn⟩
  · rintro h ⟨x, hx, hn⟩; exact h x hx hn

theorem absI_neg_eq (x : Int) : absI (-x) = absI x := by unfold absI; omega
theorem absI_eq {x y : Int} (h : absI x = absI y) : x = y ∨ x = -y := by unfold absI at h; omega

theorem NF.unique : ∀ {a b zs : List Int}, NF zs a → NF zs b → a = b := by
  intro a
  induction a with
  | nil =>
    intro b zs h h'
    cases b with
    | nil => rfl
    | cons y b => exact absurd ((h.2 y).2 ((h'.2 y).1 (by simp))) (by simp)
  | cons x a ih =>
    intro b zs h h'
    cases b with
    | nil => exact absurd ((h'.2 x).2 ((h.2 x).1 (by simp))) (by simp)
    | cons y b =>
      have hx := (h'.2 x).2 ((h.2 x).1 (by simp))
      have hy := (h.2 y).2 ((h'.2 y).1 (by simp))
      have pa := List.pairwise_cons.1 h.1
      have pb := List.pairwise_cons.1 h'.1
      have hxy : x = y := by
        rcases List.mem_cons.1 hx with e | e
        · exact e
        · have h1 := pb.1 x e
          rcases List.mem_cons.1 hy with e' | e'
          · exact e'.symm
          · have h2 := pa.1 y e'; omega
      subst hxy
      congr 1
      refine ih (zs := a) ⟨pa.2, fun _ => Iff.rfl⟩ ⟨pb.2, fun z => ?_⟩
      constructor
      · intro hz
        have h1 := pb.1 z hz
        have h2 := (h.2 z).2 ((h'.2 z).1 (List.mem_cons_of_mem _ hz))
        rcases List.mem_cons.1 h2 with e | e
        · subst e; omega
        · exact e
      · intro hz
        have h1 := pa.1 z hz
        have h2 := (h'.2 z).2 ((h.2 z).1 (List.mem_cons_of_mem _ hz))
        rcases List.mem_cons.1 h2 with e | e
        · subst e; omega
        · exact e

/-- A clause that has a normal form has no literal beside its negation (0 is none). -/
theorem NF.no_taut {zs ns : List Int} (h : NF zs ns) (h0 : ∀ x ∈ zs, x ≠ 0) : taut zs = false := by
  rw [taut_false]
  intro x hx hn
  have hx' := (h.2 x).2 hx
  have hn' := (h.2 (-x)).2 hn
  obtain ⟨i, hi, ei⟩ := List.getElem_of_mem hx'
  obtain ⟨j, hj, ej⟩ := List.getElem_of_mem hn'
  have hp := List.pairwise_iff_getElem.1 h.1
  have hne := h0 x hx
  rcases Nat.lt_trichotomy i j with hij | hij | hij
  · have := hp i j hi hj hij
    rw [ei, ej, absI_neg_eq] at this; omega
  · subst hij; rw [ei] at ej; omega
  · have := hp j i hj hi hij
    rw [ei, ej, absI_neg_eq] at this; omega

/-- In order: by variables, and by value where these are the same; each once. -/
def Ord (ys : List Int) : Prop := ys.Pairwise (fun a b => absI a < absI b ∨ absI a = absI b ∧ a < b)

theorem Ord.normal {zs ys : List Int} (h : Ord ys) (hm : ∀ x, x ∈ ys ↔ x ∈ zs) (hn : ∀ i, i + 1 < ys.length → ys.getD i 0 ≠ - ys.getD (i + 1) 0) : NF zs ys := by
  have hp := List.pairwise_iff_getElem.1 h
  refine ⟨List.pairwise_iff_getElem.2 fun i j hi hj hij => ?_, hm⟩
  have h1 := hp i (i + 1) hi (by omega) (by omega)
  have h2 := hn i (by omega)
  simp only [List.getD, List.getElem?_eq_getElem hi, List.getElem?_eq_getElem (show i + 1 < ys.length by omega), Option.getD_some] at h2
  have h3 : absI ys[i] < absI ys[i + 1] := by
    rcases h1 with h1 | ⟨h1, h1'⟩
    · exact h1
    · rcases absI_eq h1 with e | e
      · omega
      · exact absurd e h2
  by_cases e : j = i + 1
  · subst e; exact h3
  · have h4 := hp (i + 1) j (by omega) hj (by omega)
    rcases h4 with h4 | ⟨h4, _⟩ <;> omega

theorem Ord.taut {zs ys : List Int} (hm : ∀ x, x ∈ ys ↔ x ∈ zs) {i : Nat} (hi : i + 1 < ys.length) (h : ys.getD i 0 = - ys.getD (i + 1) 0) : taut zs = true := by
  rw [taut_true]
  refine ⟨ys.getD (i + 1) 0, (hm _).1 (getD_mem hi), ?_⟩
  rw [← h]
  exact (hm _).1 (getD_mem (by omega))

/-! ### What sorting and compacting make -/

theorem compactUpTo_mem (d : Array Int) : ∀ m x, x ∈ compactUpTo d m ↔ ∃ j, j < m ∧ d[j]! = x := by
  intro m
  induction m with
  | zero => intro x; simp [compactUpTo]
  | succ m ih =>
    intro x
    rw [compactUpTo_succ, List.mem_append, ih]
    constructor
    · rintro (⟨j, hj, e⟩ | h)
      · exact ⟨j, by omega, e⟩
      · split at h
        · rw [List.mem_singleton] at h; exact ⟨m, by omega, h.symm⟩
        · cases h
    · rintro ⟨j, hj, e⟩
      by_cases hjm : j < m
      · exact .inl ⟨j, hjm, e⟩
      · obtain rfl : j = m := by omega
        by_cases hk : keeps d j = true
        · right; rw [if_pos hk]; simp [e]
        · left
          have : j ≠ 0 := by
            intro e0; subst e0; exact hk (keeps_lt_one d 0 (by omega))
          refine ⟨j - 1, by omega, ?_⟩
          have h1 : ¬ d[j]! ≠ d[j - 1]! := fun h => hk (keeps_pos h)
          rw [← e]
          exact (Decidable.not_not.1 h1).symm

theorem lt_anti {x y : Int} (h1 : ltOf cmpV x y = false) (h2 : ltOf cmpV y x = false) : x = y := by
  rw [ltOf_cmpV] at h1 h2
  simp at h1 h2
  omega

theorem compactUpTo_ord (d : Array Int) (hs : SortedIn (ltOf cmpV) 0 d.size d) : ∀ m, m ≤ d.size → (compactUpTo d m).Pairwise (fun a b => ltOf cmpV a b = true) := by
  intro m
  induction m with
  | zero => intro _; simp [compactUpTo]
  | succ m ih =>
    intro hm
    rw [compactUpTo_succ]
    by_cases hk : keeps d m = true
    · rw [if_pos hk, List.pairwise_append]
      refine ⟨ih (by omega), by simp, fun a ha b hb => ?_⟩
      obtain ⟨j, hj, rfl⟩ := (compactUpTo_mem d m a).1 ha
      rw [List.mem_singleton] at hb
      subst hb
      have h1 := hs j m (by omega) hj (by omega)
      rw [← Bool.not_eq_false]
      intro h2
      have e := lt_anti h2 h1
      have hne : d[m]! ≠ d[m - 1]! := by
        intro e'
        have := keeps_neg (d := d) (m := m) (by omega) e'
        rw [hk] at this; cases this
      by_cases hjm : j = m - 1
      · exact hne (by rw [← hjm]; exact e.symm)
      · have h3 := hs j (m - 1) (by omega) (by omega) (by omega)
        have h4 := hs (m - 1) m (by omega) (by omega) (by omega)
        have h5 : ltOf cmpV d[j]! d[m - 1]! = false := by rw [e]; exact h4
        exact hne (e.symm.trans (lt_anti h5 h3))
    · rw [if_neg hk, List.append_nil]
      exact ih (by omega)

theorem permIn_mem {d d' : Array Int} (h : PermIn 0 d.size d d') (x : Int) : x ∈ d' ↔ x ∈ d := by
  obtain ⟨h1, _, h3⟩ := h
  have e1 : d'.extract 0 d.size = d' := by rw [← h1]; simp
  have e2 : d.extract 0 d.size = d := by simp
  rw [e1, e2] at h3
  rw [← Array.mem_toList_iff, ← Array.mem_toList_iff]
  exact h3.mem_iff

theorem mem_get {d : Array Int} {x : Int} : x ∈ d ↔ ∃ j, j < d.size ∧ d[j]! = x := by
  constructor
  · intro h
    obtain ⟨j, hj, e⟩ := Array.getElem_of_mem h
    exact ⟨j, hj, by rw [getElem!_pos d j hj, e]⟩
  · rintro ⟨j, hj, e⟩
    rw [← e, getElem!_pos d j hj]
    exact Array.getElem_mem hj

/-- zs, sorted by 'compare' and compacted: in order, with the same literals. -/
theorem sorted_compact {zs : List Int} {d' : Array Int} (hF : zs.all isF = true) (hp : PermIn 0 zs.toArray.size zs.toArray d') (hs : SortedIn (ltOf cmpV) 0 zs.toArray.size d') :
    Ord (compact d'.toList) ∧ ∀ x, x ∈ compact d'.toList ↔ x ∈ zs := by
  have hsz : d'.size = zs.toArray.size := hp.1
  have hmem : ∀ x, x ∈ compact d'.toList ↔ x ∈ zs := by
    intro x
    unfold compact
    rw [Array.toArray_toList, compactUpTo_mem, Array.length_toList, ← mem_get, permIn_mem hp]
    simp
  refine ⟨?_, hmem⟩
  have hcu := compactUpTo_ord d' (by rw [hsz]; exact hs) d'.size (Nat.le_refl _)
  have hb : ∀ x ∈ compact d'.toList, absW x = absI x := by
    intro x hx
    have := isF_yes (List.all_eq_true.1 hF x ((hmem x).1 hx))
    exact absW_eq this.2.1 this.2.2
  unfold Ord
  unfold compact at hb ⊢
  rw [Array.toArray_toList, Array.length_toList] at *
  refine hcu.imp_of_mem fun {a b} ha hb' h => ?_
  rw [ltOf_cmpV, hb a ha, hb b hb'] at h
  simpa using h
end Go.Proofs.Ytcppmjgglcobcaa
