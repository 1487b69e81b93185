/- Hash: plain data: a builder's gates, what its calls answer, what that means. -/
import Derived.Test.YtilbgopdciiadaaSimE
namespace Go.Proofs.Ytilbgopdciiadaa
open Go.RowKit

/-- A literal's negation. -/
def neg (l : Int) : Int := if l % 2 = 0 then l + 1 else l - 1
theorem neg_neg (l : Int) : neg (neg l) = l := by unfold neg; split <;> split <;> omega
structure Bd where
  i : Nat
  l : Nat
  g : List (Int × Int)
def Bd.last (b : Bd) : Nat := b.i + b.l + b.g.length
def Bd.has (b : Bd) (x : Int) : Bool := decide (0 ≤ x) && decide (x ≤ 2 * (b.last : Int) + 1)
def Bd.out (b : Bd) (k : Nat) : Int := 2 * ((b.i + b.l + k : Nat) : Int) + 2
def findP (p : Int × Int) : List (Int × Int) → Nat → Option Nat
  | [], _ => none
  | q :: r, k => if q = p then some k else findP p r (k + 1)
def Bd.gate (b : Bd) (x y : Int) : (Int × Int) × Bd :=
  match findP (x, y) b.g 0 with
  | some k => ((b.out k, 0), b)
  | none => if 16384 ≤ b.last ∨ 16384 ≤ b.g.length then ((0, 2), b) else ((b.out b.g.length, 0), { b with g := b.g ++ [(x, y)] })
def Bd.and2 (b : Bd) (x y : Int) : (Int × Int) × Bd :=
  if y = 0 ∨ (x = y + 1 ∧ y % 2 = 0) then ((0, 0), b) else if y = 1 ∨ x = y then ((x, 0), b) else b.gate x y
def Bd.and_ (b : Bd) (x y : Int) : (Int × Int) × Bd := b.and2 (max x y) (min x y)
def negR (r : (Int × Int) × Bd) : (Int × Int) × Bd := ((if r.1.2 = 0 then neg r.1.1 else 0, r.1.2), r.2)
def Bd.or_ (b : Bd) (x y : Int) : (Int × Int) × Bd := negR (b.and_ (neg x) (neg y))
def Bd.And (b : Bd) (x y : Int) : (Int × Int) × Bd := if b.has x = true ∧ b.has y = true then b.and_ x y else ((0, 5), b)
def Bd.Or (b : Bd) (x y : Int) : (Int × Int) × Bd := if b.has x = true ∧ b.has y = true then b.or_ x y else ((0, 5), b)
def andThen (r : (Int × Int) × Bd) (f : Int → Bd → (Int × Int) × Bd) : (Int × Int) × Bd := if r.1.2 = 0 then f r.1.1 r.2 else ((0, r.1.2), r.2)
def Bd.Xor (b : Bd) (x y : Int) : (Int × Int) × Bd :=
  if b.has x = true ∧ b.has y = true then andThen (b.and_ x y) fun u b1 => andThen (b1.and_ (neg x) (neg y)) fun v b2 => b2.and_ (neg u) (neg v) else ((0, 5), b)
def Bd.Mux (b : Bd) (s x y : Int) : (Int × Int) × Bd :=
  if b.has s = true ∧ b.has x = true ∧ b.has y = true then andThen (b.and_ s x) fun u b1 => andThen (b1.and_ (neg s) y) fun v b2 => b2.or_ u v else ((0, 5), b)

theorem findP_some {p : Int × Int} : ∀ {l : List (Int × Int)} {k j : Nat}, findP p l k = some j → k ≤ j ∧ l[j - k]? = some p
  | [], _, _, h => by simp [findP] at h
  | q :: r, k, j, h => by
    unfold findP at h
    split at h
    · rename_i e; injection h with h; subst h; exact ⟨Nat.le_refl _, by simp [e]⟩
    · obtain ⟨h1, h2⟩ := findP_some h
      refine ⟨by omega, ?_⟩
      rw [show j - k = (j - (k + 1)) + 1 by omega, List.getElem?_cons_succ]
      exact h2
theorem findP_none {p : Int × Int} : ∀ {l : List (Int × Int)} {k : Nat}, findP p l k = none → p ∉ l
  | [], _, _ => by simp
  | q :: r, k, h => by
    unfold findP at h
    split at h
    · cases h
    · rename_i e
      have := findP_none h
      simp only [List.mem_cons, not_or]
      exact ⟨fun x => e x.symm, this⟩
theorem findP_at {p : Int × Int} : ∀ {l : List (Int × Int)} {k j : Nat}, l.Nodup → l[j]? = some p → findP p l k = some (k + j)
  | [], _, _, _, h => by simp at h
  | q :: r, k, j, hn, h => by
    rw [List.nodup_cons] at hn
    unfold findP
    cases j with
    | zero => simp at h; rw [if_pos h]; rfl
    | succ j =>
      have h' : r[j]? = some p := by simpa using h
      have hne : ¬ q = p := fun e => hn.1 (by rw [e]; exact List.mem_of_getElem? h')
      rw [if_neg hne, findP_at hn.2 h']
      congr 1; omega
theorem findP_no {p : Int × Int} {l : List (Int × Int)} {k : Nat} (h : p ∉ l) : findP p l k = none := by
  cases e : findP p l k with
  | none => rfl
  | some j => exact absurd (List.mem_of_getElem? (findP_some e).2) h
structure Bd.Ok (b : Bd) : Prop where
  last : b.last ≤ 16384
  fit : ∀ (k : Nat) (p : Int × Int), b.g[k]? = some p → 2 ≤ p.2 ∧ p.2 < p.1 ∧ p.1 / 2 ≠ p.2 / 2 ∧ p.1 < b.out k
  nd : b.g.Nodup
theorem has_iff {b : Bd} {x : Int} : b.has x = true ↔ 0 ≤ x ∧ x ≤ 2 * (b.last : Int) + 1 := by unfold Bd.has; simp
theorem has_neg {b : Bd} {x : Int} : b.has (neg x) = b.has x := by
  have h : (b.has (neg x) = true) ↔ (b.has x = true) := by rw [has_iff, has_iff]; unfold neg; split <;> omega
  cases h1 : b.has (neg x) <;> cases h2 : b.has x <;> simp_all
theorem has_max {b : Bd} {x y : Int} (h : b.has x = true) (k : b.has y = true) : b.has (max x y) = true := by rw [has_iff] at *; omega
theorem has_min {b : Bd} {x y : Int} (h : b.has x = true) (k : b.has y = true) : b.has (min x y) = true := by rw [has_iff] at *; omega
/-- What a conjunction makes of a builder. -/
structure AndS (b : Bd) (r : (Int × Int) × Bd) : Prop where
  ok : r.2.Ok
  i : r.2.i = b.i
  l : r.2.l = b.l
  pre : b.g <+: r.2.g
  len : r.2.g.length ≤ b.g.length + 1
  err : (r.1.2 = 0 ∧ r.2.has r.1.1 = true) ∨ (r.1.2 = 2 ∧ r.1.1 = 0 ∧ r.2 = b ∧ 16384 ≤ b.last)
theorem AndS.last {b : Bd} {r : (Int × Int) × Bd} (h : AndS b r) : b.last ≤ r.2.last := by
  unfold Bd.last
  rw [h.i, h.l]
  have := h.pre.length_le
  omega
theorem AndS.has {b : Bd} {r : (Int × Int) × Bd} (h : AndS b r) {x : Int} (hx : b.has x = true) : r.2.has x = true := by
  have := h.last
  rw [has_iff] at *
  omega
theorem AndS.triv {b : Bd} (hb : b.Ok) {z : Int} (hz : b.has z = true) : AndS b ((z, 0), b) := ⟨hb, rfl, rfl, List.prefix_refl _, by simp, .inl ⟨rfl, hz⟩⟩
theorem gate_spec {b : Bd} (hb : b.Ok) {x y : Int} (h1 : 2 ≤ y) (h2 : y < x) (h3 : x / 2 ≠ y / 2) (hx : b.has x = true) : AndS b (b.gate x y) := by
  rw [has_iff] at hx
  unfold Bd.gate
  cases e : findP (x, y) b.g 0 with
  | some k =>
    obtain ⟨_, hk⟩ := findP_some e
    have hkl := (List.getElem?_eq_some_iff.1 hk).1
    simp only
    refine AndS.triv hb ?_
    rw [has_iff]
    unfold Bd.out Bd.last
    omega
  | none =>
    have hn := findP_none e
    simp only
    split
    · rename_i h
      refine ⟨hb, rfl, rfl, List.prefix_refl _, by simp, .inr ⟨rfl, rfl, rfl, ?_⟩⟩
      unfold Bd.last at *
      omega
    · rename_i h
      refine ⟨⟨?_, fun k p hk => ?_, ?_⟩, rfl, rfl, List.prefix_append _ _, by simp, .inl ⟨rfl, ?_⟩⟩
      · unfold Bd.last at *
        simp
        omega
      · rcases Nat.lt_or_ge k b.g.length with hlt | hge
        · rw [List.getElem?_append_left hlt] at hk
          exact hb.fit k p hk
        · rw [List.getElem?_append_right hge] at hk
          have hk0 : k - b.g.length = 0 := by
            have := (List.getElem?_eq_some_iff.1 hk).1
            simp at this
            omega
          rw [hk0] at hk
          simp at hk
          subst hk
          refine ⟨h1, h2, h3, ?_⟩
          have : k = b.g.length := by omega
          subst this
          unfold Bd.out
          unfold Bd.last at hx
          simp only
          omega
      · rw [List.nodup_append]
        exact ⟨hb.nd, by simp, fun a ha c hc => by simp at hc; subst hc; exact fun e => hn (e ▸ ha)⟩
      · rw [has_iff]
        unfold Bd.out Bd.last
        simp
        omega
theorem and_spec {b : Bd} (hb : b.Ok) {x y : Int} (hx : b.has x = true) (hy : b.has y = true) : AndS b (b.and_ x y) := by
  have hM := has_max hx hy
  have hm := has_min hx hy
  unfold Bd.and_ Bd.and2
  have hle : min x y ≤ max x y := by omega
  generalize max x y = X at *
  generalize min x y = Y at *
  have h0 := has_iff.1 hm
  split
  · exact AndS.triv hb (by rw [has_iff]; omega)
  · split
    · exact AndS.triv hb hM
    · exact gate_spec hb (by omega) (by omega) (by omega) hM
theorem negR_spec {b : Bd} {r : (Int × Int) × Bd} (h : AndS b r) : AndS b (negR r) := by
  refine ⟨h.ok, h.i, h.l, h.pre, h.len, ?_⟩
  rcases h.err with ⟨h1, h2⟩ | ⟨h1, h2, h3, h4⟩
  · refine .inl ⟨h1, ?_⟩
    unfold negR
    simp only
    rw [if_pos h1, has_neg]
    exact h2
  · refine .inr ⟨h1, ?_, h3, h4⟩
    unfold negR
    simp only
    rw [if_neg (by omega)]
theorem or_spec {b : Bd} (hb : b.Ok) {x y : Int} (hx : b.has x = true) (hy : b.has y = true) : AndS b (b.or_ x y) := negR_spec (and_spec hb (by rw [has_neg]; exact hx) (by rw [has_neg]; exact hy))
/-- What several make of it. -/
structure AnyS (b : Bd) (r : (Int × Int) × Bd) : Prop where
  ok : r.2.Ok
  i : r.2.i = b.i
  l : r.2.l = b.l
  pre : b.g <+: r.2.g
  err : (r.1.2 = 0 ∧ r.2.has r.1.1 = true) ∨ (r.1.2 = 2 ∧ r.1.1 = 0 ∧ 16384 ≤ r.2.last) ∨ (r.1.2 = 5 ∧ r.1.1 = 0 ∧ r.2 = b)
theorem AndS.any {b : Bd} {r : (Int × Int) × Bd} (h : AndS b r) : AnyS b r := ⟨h.ok, h.i, h.l, h.pre, by
  rcases h.err with h1 | ⟨h1, h2, h3, h4⟩
  · exact .inl h1
  · exact .inr (.inl ⟨h1, h2, by rw [h3]; exact h4⟩)⟩
theorem AnyS.none {b : Bd} (hb : b.Ok) : AnyS b ((0, 5), b) := ⟨hb, rfl, rfl, List.prefix_refl _, .inr (.inr ⟨rfl, rfl, rfl⟩)⟩
theorem AndS.ne5 {b : Bd} {r : (Int × Int) × Bd} (h : AndS b r) : r.1.2 ≠ 5 := by rcases h.err with ⟨h1, _⟩ | ⟨h1, _⟩ <;> omega
/-! What the literals mean. -/
structure Bd.Sem (b : Bd) (T : List Bool) : Prop where
  z : T.getD 0 false = false
  g : ∀ (k : Nat) (p : Int × Int), b.g[k]? = some p → T.getD (b.i + b.l + k + 1) false = (litV T p.1 && litV T p.2)
theorem Sem.mono {b b' : Bd} {T : List Bool} (h : b'.Sem T) (hi : b'.i = b.i) (hl : b'.l = b.l) (hp : b.g <+: b'.g) : b.Sem T := by
  refine ⟨h.z, fun k p hk => ?_⟩
  have := h.g k p (by obtain ⟨t, ht⟩ := hp; rw [← ht, List.getElem?_append_left (List.getElem?_eq_some_iff.1 hk).1]; exact hk)
  rwa [hi, hl] at this
theorem mux_any {b : Bd} (hb : b.Ok) (s x y : Int) : AnyS b (b.Mux s x y) := by
  unfold Bd.Mux
  by_cases hh : b.has s = true ∧ b.has x = true ∧ b.has y = true
  · rw [if_pos hh]
    have k1 := and_spec hb hh.1 hh.2.1
    obtain ⟨r1, hr1⟩ : ∃ r, b.and_ s x = r := ⟨_, rfl⟩
    rw [hr1] at k1 ⊢
    have k2 := and_spec k1.ok (x := neg s) (y := y) (by rw [has_neg]; exact k1.has hh.1) (k1.has hh.2.2)
    obtain ⟨r2, hr2⟩ : ∃ r, r1.2.and_ (neg s) y = r := ⟨_, rfl⟩
    rcases k1.err with ⟨e1, g1⟩ | ⟨q1, q2, q3, q4⟩
    · unfold andThen
      rw [if_pos e1]
      simp only
      rw [hr2]
      rw [hr2] at k2
      rcases k2.err with ⟨e2, g2⟩ | ⟨q1, q2, q3, q4⟩
      · rw [if_pos e2]
        have k3 := (or_spec k2.ok (k2.has g1) g2)
        refine ⟨k3.ok, k3.i.trans (k2.i.trans k1.i), k3.l.trans (k2.l.trans k1.l), k1.pre.trans (k2.pre.trans k3.pre), ?_⟩
        rcases k3.any.err with h | h | ⟨h, _⟩
        · exact .inl h
        · exact .inr (.inl h)
        · exact absurd h k3.ne5
      · rw [if_neg (by omega)]
        exact ⟨k2.ok, k2.i.trans k1.i, k2.l.trans k1.l, k1.pre.trans k2.pre, .inr (.inl ⟨q1, rfl, by rw [q3]; exact q4⟩)⟩
    · unfold andThen
      rw [if_neg (by omega)]
      exact ⟨k1.ok, k1.i, k1.l, k1.pre, .inr (.inl ⟨q1, rfl, by rw [q3]; exact q4⟩)⟩
  · rw [if_neg hh]; exact AnyS.none hb
theorem And_any {b : Bd} (hb : b.Ok) (x y : Int) : AnyS b (b.And x y) := by
  unfold Bd.And
  split
  · rename_i h; exact (and_spec hb h.1 h.2).any
  · exact AnyS.none hb
/-- The program's way to Xor. -/
theorem xor_mux {b : Bd} (hb : b.Ok) (x y : Int) : negR (b.Mux x y (neg y)) = b.Xor x y := by
  unfold Bd.Mux Bd.Xor
  rw [has_neg]
  by_cases hh : b.has x = true ∧ b.has y = true
  · rw [if_pos ⟨hh.1, hh.2, hh.2⟩, if_pos hh]
    have k1 := and_spec hb hh.1 hh.2
    obtain ⟨r1, hr1⟩ : ∃ r, b.and_ x y = r := ⟨_, rfl⟩
    rw [hr1] at k1 ⊢
    unfold andThen
    rcases k1.err with ⟨e1, g1⟩ | ⟨e1, _⟩
    · rw [if_pos e1, if_pos e1]
      simp only
      have k2 := and_spec k1.ok (x := neg x) (y := neg y) (by rw [has_neg]; exact k1.has hh.1) (by rw [has_neg]; exact k1.has hh.2)
      obtain ⟨r2, hr2⟩ : ∃ r, r1.2.and_ (neg x) (neg y) = r := ⟨_, rfl⟩
      rw [hr2] at k2 ⊢
      rcases k2.err with ⟨e2, g2⟩ | ⟨e2, _⟩
      · rw [if_pos e2, if_pos e2]
        have k3 := and_spec k2.ok (x := neg r1.1.1) (y := neg r2.1.1) (by rw [has_neg]; exact k2.has g1) (by rw [has_neg]; exact g2)
        unfold Bd.or_ negR
        simp only
        obtain ⟨r3, hr3⟩ : ∃ r, r2.2.and_ (neg r1.1.1) (neg r2.1.1) = r := ⟨_, rfl⟩
        rw [hr3] at k3 ⊢
        rcases k3.err with ⟨e3, g3⟩ | ⟨e3, z3, _⟩
        · rw [if_pos e3, if_pos e3, neg_neg]
        · rw [if_neg (by omega)]
          rw [← z3]
      · rw [if_neg (by omega), if_neg (by omega)]
        unfold negR
        simp only
        rw [if_neg (by omega)]
    · rw [if_neg (by omega), if_neg (by omega)]
      unfold negR
      simp only
      rw [if_neg (by omega)]
  · rw [if_neg (by rintro ⟨a, c, _⟩; exact hh ⟨a, c⟩), if_neg hh]
    rfl
end Go.Proofs.Ytilbgopdciiadaa
