/- The order of gates as plain data: the least one that may come is always the next. -/
import Derived.Test.YtfbnhkndlohalaaHeapP
namespace Go.Proofs.Ytfbnhkndlohalaa
open Go.RowKit

/-- A gate may come next behind those of L. -/
def Avail (uses : List (Int × Int)) (L : List Int) (y : Int) : Prop := InR uses.length y ∧ y ∉ L ∧ ∀ z, Edge uses y z → z ∈ L
/-- The least one that may come is always the next. -/
inductive Greedy (uses : List (Int × Int)) : List Int → Prop where
  | nil : Greedy uses []
  | snoc {L : List Int} {i : Int} : Greedy uses L → Avail uses L i → (∀ y, Avail uses L y → i ≤ y) → Greedy uses (L ++ [i])
structure OS where
  told : List Bool
  wait : List (List Int)
  hp : List Int
  out : List Int
  next : Nat
def wt (W : List (List Int)) (u : Int) : List Int := W.getD u.toNat []
def tdF (T : List Bool) (u : Int) : Bool := T.getD u.toNat false
def waitF (S : OS) (i u : Int) : OS := { S with wait := S.wait.set u.toNat (wt S.wait u ++ [i]) }
def tellF (S : OS) (i : Int) : OS := { S with told := S.told.set i.toNat true, out := S.out ++ [i], hp := (wt S.wait i).foldl pushF S.hp }
structure OInv (uses : List (Int × Int)) (S : OS) : Prop where
  tl : S.told.length = uses.length
  wl : S.wait.length = uses.length
  nx : S.next ≤ uses.length
  td : ∀ y, InR uses.length y → (tdF S.told y = true ↔ y ∈ S.out)
  gr : Greedy uses S.out
  ho : Heap S.hp S.hp.length
  hn : S.hp.Nodup
  hr : ∀ y ∈ S.hp, y ∉ S.out ∧ 0 ≤ y ∧ y < (S.next : Int)
  or : ∀ y ∈ S.out, 0 ≤ y ∧ y < (S.next : Int)
  wr : ∀ u, InR uses.length u → u ∉ S.out → ∀ y ∈ wt S.wait u, Edge uses y u ∧ 0 ≤ y ∧ y < (S.next : Int) ∧ y ∉ S.out ∧ y ∉ S.hp
  wn : ∀ u, InR uses.length u → u ∉ S.out → (wt S.wait u).Nodup
  wu : ∀ u v y, InR uses.length u → u ∉ S.out → InR uses.length v → v ∉ S.out → y ∈ wt S.wait u → y ∈ wt S.wait v → u = v
/-- The gate i was taken: it stands nowhere; it is the least that may come, if it may. -/
structure OTaken (uses : List (Int × Int)) (S : OS) (i : Int) : Prop where
  inv : OInv uses S
  ir : 0 ≤ i ∧ i < (S.next : Int)
  io : i ∉ S.out
  ih : i ∉ S.hp
  iw : ∀ u, InR uses.length u → u ∉ S.out → i ∉ wt S.wait u
  cov : ∀ y, 0 ≤ y → y < (S.next : Int) → y = i ∨ y ∈ S.out ∨ y ∈ S.hp ∨ ∃ u, InR uses.length u ∧ u ∉ S.out ∧ y ∈ wt S.wait u
  least : ∀ y, Avail uses S.out y → i ≤ y
structure OGood (uses : List (Int × Int)) (S : OS) : Prop where
  inv : OInv uses S
  cov : ∀ y, 0 ≤ y → y < (S.next : Int) → y ∈ S.out ∨ y ∈ S.hp ∨ ∃ u, InR uses.length u ∧ u ∉ S.out ∧ y ∈ wt S.wait u
section
variable {uses : List (Int × Int)}
theorem nodup_sub {α : Type} [DecidableEq α] : ∀ {l m : List α}, l.Nodup → (∀ x ∈ l, x ∈ m) → l.length ≤ m.length
  | [], _, _, _ => by simp
  | a :: l, m, h, hs => by
    obtain ⟨h1, h2⟩ := List.nodup_cons.1 h
    have ha : a ∈ m := hs a (by simp)
    have := nodup_sub (l := l) (m := m.erase a) h2 (fun x hx => by
      have hne : x ≠ a := fun e => h1 (e ▸ hx)
      exact (List.mem_erase_of_ne hne).2 (hs x (by simp [hx])))
    rw [List.length_erase_of_mem ha] at this
    have hp : 0 < m.length := List.length_pos_iff.2 (fun e => by rw [e] at ha; simp at ha)
    simp only [List.length_cons]
    omega
theorem Greedy.nodup {L : List Int} (h : Greedy uses L) : L.Nodup := by
  induction h with
  | nil => exact List.nodup_nil
  | snoc _ ha _ ih =>
    rw [List.nodup_append]
    refine ⟨ih, by simp, ?_⟩
    intro x hx y hy
    simp only [List.mem_singleton] at hy
    subst hy
    rintro rfl
    exact ha.2.1 hx
theorem Greedy.inR {L : List Int} (h : Greedy uses L) : ∀ x ∈ L, InR uses.length x := by
  induction h with
  | nil => simp
  | snoc _ ha _ ih =>
    intro x hx
    rcases List.mem_append.1 hx with hx | hx
    · exact ih x hx
    · simp only [List.mem_singleton] at hx
      subst hx
      exact ha.1
def intRange (n : Nat) : List Int := (List.range n).map (fun k : Nat => (k : Int))
theorem mem_intRange {n : Nat} {x : Int} : x ∈ intRange n ↔ InR n x := by
  unfold intRange InR
  simp only [List.mem_map, List.mem_range]
  constructor
  · rintro ⟨k, hk, rfl⟩; omega
  · intro h
    exact ⟨x.toNat, by omega, by omega⟩
theorem nodup_map_inj {α β : Type} {f : α → β} (hf : ∀ a b, f a = f b → a = b) {l : List α} (h : l.Nodup) : (l.map f).Nodup := by
  induction h with
  | nil => simp
  | cons ha _ ih =>
    simp only [List.map_cons, List.nodup_cons]
    refine ⟨fun hm => ?_, ih⟩
    obtain ⟨b, hb, e⟩ := List.mem_map.1 hm
    exact ha b hb (hf _ _ e).symm
theorem nodup_intRange (n : Nat) : (intRange n).Nodup := nodup_map_inj (fun a b h => by omega) List.nodup_range
theorem len_intRange (n : Nat) : (intRange n).length = n := by simp [intRange]
theorem in_le {L : List Int} {n : Nat} (h : L.Nodup) (hr : ∀ x ∈ L, InR n x) : L.length ≤ n := by
  have := nodup_sub h (fun x hx => mem_intRange.2 (hr x hx))
  rwa [len_intRange] at this
theorem some_left {L : List Int} {n : Nat} (h : L.length < n) : ∃ y, InR n y ∧ y ∉ L := by
  apply Classical.byContradiction
  intro hc
  have := nodup_sub (nodup_intRange n) (m := L) (fun x hx => Classical.byContradiction fun hx' => hc ⟨x, mem_intRange.1 hx, hx'⟩)
  rw [len_intRange] at this
  omega
theorem Greedy.len_le {L : List Int} (h : Greedy uses L) : L.length ≤ uses.length := in_le h.nodup h.inR
/-- The least rank of what is left. -/
theorem least_rank (r : Int → Nat) {P : Int → Prop} : ∀ (k : Nat) (y : Int), r y ≤ k → P y → ∃ y, P y ∧ ∀ z, P z → r y ≤ r z
  | 0, y, hk, hy => ⟨y, hy, fun z _ => by omega⟩
  | k + 1, y, hk, hy => by
    by_cases h : ∃ z, P z ∧ r z < r y
    · obtain ⟨z, hz, hlt⟩ := h
      exact least_rank r k z (by omega) hz
    · refine ⟨y, hy, fun z hz => ?_⟩
      apply Classical.byContradiction
      intro hc
      exact h ⟨z, hz, by omega⟩
/-- Where none comes round there is always one that may come. -/
theorem OGood.not_stuck {S : OS} (hu : UsesOk uses.length uses) (hn16 : uses.length ≤ 16384) (hf : firstF uses = -1) (h : OGood uses S) (hh : S.hp = []) (hl : S.out.length < uses.length) : S.next < uses.length := by
  apply Classical.byContradiction
  intro hc
  have hnx : S.next = uses.length := by have := h.inv.nx; omega
  obtain ⟨y, hy, hyo⟩ := some_left hl
  obtain ⟨z, ⟨hz, hzo⟩, hzm⟩ := least_rank (rank uses) (P := fun y => InR uses.length y ∧ y ∉ S.out) (rank uses y) y (Nat.le_refl _) ⟨hy, hyo⟩
  rcases h.cov z hz.1 (by rw [hnx]; exact hz.2) with h1 | h1 | ⟨u, hur, huo, hzu⟩
  · exact hzo h1
  · rw [hh] at h1; simp at h1
  · have h2 := (h.inv.wr u hur huo z hzu).1
    have := rank_lt hu hn16 hf hz h2
    have := hzm u ⟨hur, huo⟩
    omega
theorem take_heap {S : OS} (h : OGood uses S) (hh : S.hp ≠ []) : OTaken uses { S with hp := (popF S.hp).2 } (popF S.hp).1 := by
  have hp := pop_perm hh
  have hmem : ∀ y, y ∈ S.hp ↔ y = (popF S.hp).1 ∨ y ∈ (popF S.hp).2 := fun y => by rw [← hp.mem_iff]; simp
  have hnd : ((popF S.hp).1 :: (popF S.hp).2).Nodup := hp.nodup_iff.2 h.inv.hn
  obtain ⟨hn1, hn2⟩ := List.nodup_cons.1 hnd
  obtain ⟨i1, i2⟩ := h.inv.hr _ ((hmem _).2 (.inl rfl))
  refine ⟨⟨h.inv.tl, h.inv.wl, h.inv.nx, h.inv.td, h.inv.gr, pop_heap hh h.inv.ho, hn2, fun y hy => h.inv.hr y ((hmem y).2 (.inr hy)), h.inv.or, ?_, h.inv.wn, h.inv.wu⟩, i2, i1, hn1, ?_, ?_, ?_⟩
  · intro u hu huo y hy
    obtain ⟨a, b, c, d, e⟩ := h.inv.wr u hu huo y hy
    exact ⟨a, b, c, d, fun hy2 => e ((hmem y).2 (.inr hy2))⟩
  · intro u hu huo hi
    exact (h.inv.wr u hu huo _ hi).2.2.2.2 ((hmem _).2 (.inl rfl))
  · intro y h0 h1
    rcases h.cov y h0 h1 with hy | hy | hy
    · exact .inr (.inl hy)
    · rcases (hmem y).1 hy with hy | hy
      · exact .inl hy
      · exact .inr (.inr (.inl hy))
    · exact .inr (.inr (.inr hy))
  · intro y hy
    by_cases hlt : y < (S.next : Int)
    · rcases h.cov y hy.1.1 hlt with h1 | h1 | ⟨u, hur, huo, hyu⟩
      · exact absurd h1 hy.2.1
      · exact pop_least hh h.inv.ho y h1
      · exact absurd (hy.2.2 u (h.inv.wr u hur huo y hyu).1) huo
    · omega
theorem take_next {S : OS} (h : OGood uses S) (hh : S.hp = []) (hlt : S.next < uses.length) : OTaken uses { S with next := S.next + 1 } (S.next : Int) := by
  have hno : (S.next : Int) ∉ S.out := fun hi => by have := (h.inv.or _ hi).2; omega
  refine ⟨⟨h.inv.tl, h.inv.wl, hlt, h.inv.td, h.inv.gr, h.inv.ho, h.inv.hn, ?_, ?_, ?_, h.inv.wn, h.inv.wu⟩, ⟨by omega, by show _ < ((S.next + 1 : Nat) : Int); omega⟩, hno, by rw [show ({ S with next := S.next + 1 } : OS).hp = S.hp from rfl, hh]; simp, ?_, ?_, ?_⟩
  · intro y hy
    obtain ⟨a, b, c⟩ := h.inv.hr y hy
    exact ⟨a, b, by show _ < ((S.next + 1 : Nat) : Int); omega⟩
  · intro y hy
    obtain ⟨b, c⟩ := h.inv.or y hy
    exact ⟨b, by show _ < ((S.next + 1 : Nat) : Int); omega⟩
  · intro u hu huo y hy
    obtain ⟨a, b, c, d⟩ := h.inv.wr u hu huo y hy
    exact ⟨a, b, by show _ < ((S.next + 1 : Nat) : Int); omega, d⟩
  · intro u hu huo hi
    have := (h.inv.wr u hu huo _ hi).2.2.1
    omega
  · intro y h0 h1
    have h1' : y < ((S.next + 1 : Nat) : Int) := h1
    by_cases e : y = (S.next : Int)
    · exact .inl e
    · exact .inr (h.cov y h0 (by omega))
  · intro y hy
    apply Classical.byContradiction
    intro hc
    rcases h.cov y hy.1.1 (by omega) with h1 | h1 | ⟨u, hur, huo, hyu⟩
    · exact hy.2.1 h1
    · rw [hh] at h1; simp at h1
    · exact huo (hy.2.2 u (h.inv.wr u hur huo y hyu).1)
theorem wt_set {W : List (List Int)} {u v : Int} {n : Nat} {l : List Int} (hl : W.length = n) (hu : InR n u) (hv : InR n v) : wt (W.set u.toNat l) v = if v = u then l else wt W v := by
  unfold wt InR at *
  simp only [List.getD, List.getElem?_set]
  by_cases h : v = u
  · subst h
    rw [if_pos rfl, if_pos rfl, if_pos (by omega)]; rfl
  · rw [if_neg (by omega), if_neg h]
theorem wait_good {S : OS} {i u : Int} (h : OTaken uses S i) (hE : Edge uses i u) (hur : InR uses.length u) (huo : u ∉ S.out) : OGood uses (waitF S i u) := by
  have hw : ∀ v, InR uses.length v → wt (waitF S i u).wait v = if v = u then wt S.wait u ++ [i] else wt S.wait v := fun v hv => wt_set h.inv.wl hur hv
  have hin : ∀ v, InR uses.length v → ∀ y, y ∈ wt (waitF S i u).wait v ↔ (y ∈ wt S.wait v ∨ (v = u ∧ y = i)) := by
    intro v hv y
    rw [hw v hv]
    by_cases e : v = u
    · subst e; simp
    · simp [e]
  refine ⟨⟨h.inv.tl, by show (S.wait.set _ _).length = _; rw [List.length_set]; exact h.inv.wl, h.inv.nx, h.inv.td, h.inv.gr, h.inv.ho, h.inv.hn, h.inv.hr, h.inv.or, ?_, ?_, ?_⟩, ?_⟩
  · intro v hv hvo y hy
    rcases (hin v hv y).1 hy with h1 | ⟨rfl, rfl⟩
    · exact h.inv.wr v hv hvo y h1
    · exact ⟨hE, h.ir.1, h.ir.2, h.io, h.ih⟩
  · intro v hv hvo
    rw [hw v hv]
    split
    · rename_i e
      rw [List.nodup_append]
      refine ⟨h.inv.wn u hur huo, by simp, ?_⟩
      intro x hx y hy
      simp only [List.mem_singleton] at hy
      subst hy
      rintro rfl
      exact h.iw u hur huo hx
    · exact h.inv.wn v hv hvo
  · intro a b y ha hao hb hbo h1 h2
    rcases (hin a ha y).1 h1 with h3 | ⟨e1, e2⟩
    · rcases (hin b hb y).1 h2 with h4 | ⟨e3, e4⟩
      · exact h.inv.wu a b y ha hao hb hbo h3 h4
      · exact absurd (e4 ▸ h3) (h.iw a ha hao)
    · rcases (hin b hb y).1 h2 with h4 | ⟨e3, _⟩
      · exact absurd (e2 ▸ h4) (h.iw b hb hbo)
      · exact e1.trans e3.symm
  · intro y h0 h1
    rcases h.cov y h0 h1 with e | h2 | h2 | ⟨v, hv, hvo, hy⟩
    · exact .inr (.inr ⟨u, hur, huo, (hin u hur y).2 (.inr ⟨rfl, e⟩)⟩)
    · exact .inl h2
    · exact .inr (.inl h2)
    · exact .inr (.inr ⟨v, hv, hvo, (hin v hv y).2 (.inl hy)⟩)
theorem fold_perm : ∀ (l xs : List Int), (l.foldl pushF xs).Perm (xs ++ l)
  | [], xs => by simp
  | a :: l, xs => by
    refine (fold_perm l (pushF xs a)).trans ?_
    rw [List.append_cons]
    exact (push_perm xs a).append_right l
theorem fold_heap : ∀ (l xs : List Int), Heap xs xs.length → Heap (l.foldl pushF xs) (l.foldl pushF xs).length
  | [], _, h => h
  | a :: l, xs, h => fold_heap l (pushF xs a) (push_heap h)
theorem tell_good {S : OS} {i : Int} (h : OTaken uses S i) (ha : ∀ z, Edge uses i z → z ∈ S.out) : OGood uses (tellF S i) := by
  have hir : InR uses.length i := ⟨h.ir.1, by have := h.ir.2; have := h.inv.nx; omega⟩
  have hav : Avail uses S.out i := ⟨hir, h.io, ha⟩
  have hpm := fold_perm (wt S.wait i) S.hp
  have hmem : ∀ y, y ∈ (tellF S i).hp ↔ y ∈ S.hp ∨ y ∈ wt S.wait i := fun y => hpm.mem_iff.trans List.mem_append
  have hout : ∀ y, y ∈ (tellF S i).out ↔ y ∈ S.out ∨ y = i := fun y => List.mem_append.trans (by rw [List.mem_singleton])
  refine ⟨⟨by show (S.told.set _ _).length = _; rw [List.length_set]; exact h.inv.tl, h.inv.wl, h.inv.nx, ?_, .snoc h.inv.gr hav h.least, fold_heap _ _ h.inv.ho, ?_, ?_, ?_, ?_, ?_, ?_⟩, ?_⟩
  · intro y hy
    rw [hout y, ← h.inv.td y hy]
    show tdF (S.told.set i.toNat true) y = true ↔ _
    unfold tdF
    simp only [List.getD, List.getElem?_set]
    unfold InR at hy hir
    by_cases e : y = i
    · subst e
      have : y.toNat < S.told.length := by rw [h.inv.tl]; omega
      simp [this]
    · rw [if_neg (by omega)]
      simp [e]
  · refine hpm.nodup_iff.2 ?_
    rw [List.nodup_append]
    refine ⟨h.inv.hn, h.inv.wn i hir h.io, ?_⟩
    intro x hx y hy
    rintro rfl
    exact (h.inv.wr i hir h.io x hy).2.2.2.2 hx
  · intro y hy
    rw [hout y]
    rcases (hmem y).1 hy with h1 | h1
    · obtain ⟨a, b⟩ := h.inv.hr y h1
      exact ⟨fun h2 => h2.elim a (fun e => h.ih (e ▸ h1)), b⟩
    · obtain ⟨_, a, b, c, d⟩ := h.inv.wr i hir h.io y h1
      exact ⟨fun h2 => h2.elim c (fun e => h.iw i hir h.io (e ▸ h1)), a, b⟩
  · intro y hy
    rcases (hout y).1 hy with h1 | rfl
    · exact h.inv.or y h1
    · exact h.ir
  · intro u hu huo y hy
    rw [hout u] at huo
    obtain ⟨a, b, c, d, e⟩ := h.inv.wr u hu (fun h1 => huo (.inl h1)) y hy
    refine ⟨a, b, c, ?_, ?_⟩
    · rw [hout y]
      exact fun h2 => h2.elim d (fun e2 => h.iw u hu (fun h1 => huo (.inl h1)) (e2 ▸ hy))
    · rw [hmem y]
      exact fun h2 => h2.elim e (fun h3 => huo (.inr (h.inv.wu u i y hu (fun h1 => huo (.inl h1)) hir h.io hy h3)))
  · intro u hu huo
    rw [hout u] at huo
    exact h.inv.wn u hu (fun h1 => huo (.inl h1))
  · intro a b y ha' hao hb hbo h1 h2
    rw [hout] at hao hbo
    exact h.inv.wu a b y ha' (fun h1 => hao (.inl h1)) hb (fun h1 => hbo (.inl h1)) h1 h2
  · intro y h0 h1
    rw [hout y, hmem y]
    rcases h.cov y h0 h1 with e | h2 | h2 | ⟨v, hv, hvo, hy⟩
    · exact .inl (.inr e)
    · exact .inl (.inl h2)
    · exact .inr (.inl (.inl h2))
    · by_cases e : v = i
      · subst e; exact .inr (.inl (.inr hy))
      · refine .inr (.inr ⟨v, hv, ?_, hy⟩)
        rw [hout v]
        exact fun h3 => h3.elim hvo e
def os0 (n : Nat) : OS := { told := List.replicate n false, wait := List.replicate n [], hp := [], out := [], next := 0 }
theorem os0_good : OGood uses (os0 uses.length) := by
  have hw : ∀ u, wt (os0 uses.length).wait u = [] := by
    intro u
    unfold wt os0
    simp only [List.getD, List.getElem?_replicate]
    split <;> rfl
  refine ⟨⟨by simp [os0], by simp [os0], by simp [os0], ?_, .nil, ?_, by simp [os0], by simp [os0], by simp [os0], ?_, ?_, ?_⟩, ?_⟩
  · intro y _
    simp only [tdF, os0, List.getD, List.getElem?_replicate]
    split <;> simp
  · intro k _ hk
    simp [os0] at hk
  · intro u _ _ y hy
    rw [hw] at hy; simp at hy
  · intro u _ _
    rw [hw]; simp
  · intro a b y _ _ _ _ h1
    rw [hw] at h1; simp at h1
  · intro y h0 h1
    have h1' : y < ((0 : Nat) : Int) := h1
    omega
/-- What is still to be done. -/
def oM (n : Nat) (S : OS) : Nat := (n - S.out.length) * (n + 1) + S.hp.length + (n - S.next)
theorem hp_le {S : OS} (h : OInv uses S) : S.hp.length ≤ uses.length := in_le h.hn (fun x hx => ⟨(h.hr x hx).2.1, by have := (h.hr x hx).2.2; have := h.nx; omega⟩)
/-- Two ways of the least next are one. -/
theorem Greedy.unique {L M : List Int} (h : Greedy uses L) : Greedy uses M → L.length = M.length → L = M := by
  intro h2
  induction h generalizing M with
  | nil => intro hl; exact (List.eq_nil_of_length_eq_zero (by simpa using hl.symm)).symm
  | snoc hL ha hm ih =>
    intro hl
    cases h2 with
    | nil => simp at hl
    | snoc hM hb hn =>
      have := ih hM (by simpa using hl)
      subst this
      have := hm _ hb
      have := hn _ ha
      congr 2
      omega
/-- Each one stands behind those that it uses. -/
theorem Greedy.before {L : List Int} (h : Greedy uses L) : ∀ (k : Nat) (i : Int), L[k]? = some i → ∀ z, Edge uses i z → z ∈ L.take k := by
  induction h with
  | nil => simp
  | @snoc L j hL ha _ ih =>
    intro k i hk z hz
    by_cases hlt : k < L.length
    · rw [List.getElem?_append_left hlt] at hk
      rw [List.take_append_of_le_length (by omega)]
      exact ih k i hk z hz
    · have hk2 : k = L.length := by
        obtain ⟨hl, _⟩ := List.getElem?_eq_some_iff.1 hk
        simp at hl; omega
      subst hk2
      simp at hk
      subst hk
      simp
      exact ha.2.2 z hz
end
end Go.Proofs.Ytfbnhkndlohalaa
