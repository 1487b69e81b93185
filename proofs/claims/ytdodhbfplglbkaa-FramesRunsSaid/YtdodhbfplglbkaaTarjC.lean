/- Which gates come round: what the way along gates finds is the least gate that comes round (plain data). -/
import Derived.Test.YtdodhbfplglbkaaFirst
namespace Go.Proofs.Ytdodhbfplglbkaa
open Go.RowKit

/-- One gate uses another. -/
def Edge (uses : List (Int × Int)) (x y : Int) : Prop := y ≠ -1 ∧ ((uses.getD x.toNat (-1, -1)).1 = y ∨ (uses.getD x.toNat (-1, -1)).2 = y)
inductive Path (uses : List (Int × Int)) : Int → Int → Prop where
  | refl (x : Int) : Path uses x x
  | step {x y z : Int} : Edge uses x y → Path uses y z → Path uses x z
theorem Path.trans {uses : List (Int × Int)} {x y z : Int} (h : Path uses x y) (h2 : Path uses y z) : Path uses x z := by
  induction h with
  | refl => exact h2
  | step e _ ih => exact .step e (ih h2)
theorem Path.one {uses : List (Int × Int)} {x y : Int} (h : Edge uses x y) : Path uses x y := .step h (.refl y)
/-- A gate comes round. -/
def Cyc (uses : List (Int × Int)) (x : Int) : Prop := ∃ y, Edge uses x y ∧ Path uses y x
theorem cyc_of {uses : List (Int × Int)} {x y : Int} (h : Path uses x y) (h2 : Path uses y x) (hne : x ≠ y) : Cyc uses x := by
  cases h with
  | refl => exact absurd rfl hne
  | step e p => exact ⟨_, e, p.trans h2⟩
abbrev InR (n : Nat) (x : Int) : Prop := 0 ≤ x ∧ x < (n : Int)
theorem edge_in {n : Nat} {uses : List (Int × Int)} (hu : UsesOk n uses) {x y : Int} (hx : InR n x) (h : Edge uses x y) : InR n y := by
  obtain ⟨p, _, hp, h1, h2⟩ := use_at hu (i := x.toNat) (by omega)
  unfold Edge at h
  rw [hp] at h
  obtain ⟨hn, h | h⟩ := h
  · rcases h1 with h1 | h1
    · exact absurd (h ▸ h1) hn
    · exact h ▸ h1
  · rcases h2 with h2 | h2
    · exact absurd (h ▸ h2) hn
    · exact h ▸ h2
/-- When a gate was met. -/
def mt (S : TS) (x : Int) : Int := S.met.getD x.toNat 0
structure TI (uses : List (Int × Int)) (n : Nat) (S : TS) : Prop where
  base : TInv n S
  nd : S.opn.Pairwise (fun x y => mt S x < mt S y)
  op : ∀ x, InR n x → (x ∈ S.opn ↔ mt S x ≠ 0 ∧ mt S x ≠ maxI)
  cb : ∀ x ∈ S.opn, 0 < mt S x ∧ mt S x ≤ (S.count : Int)
  cl : ∀ x y, InR n x → mt S x = maxI → Edge uses x y → mt S y = maxI
  rch : S.opn.Pairwise (fun x y => Path uses x y)
  f1 : ∀ x, InR n x → mt S x = maxI → Cyc uses x → S.first ≠ -1 ∧ S.first ≤ x
  f2 : S.first ≠ -1 → InR n S.first ∧ Cyc uses S.first
/-- What a gate that was followed leaves. -/
structure FS (uses : List (Int × Int)) (n : Nat) (S S' : TS) (i r : Int) (B : List Int) : Prop where
  inv : TI uses n S'
  opn : S'.opn = S.opn ++ B
  keep : ∀ x, InR n x → mt S x ≠ 0 → mt S' x = mt S x
  me : mt S' i ≠ 0
  res : (r = maxI ∧ B = []) ∨ (∃ y ∈ S.opn, mt S y = r ∧ Path uses i y)
  back : ∀ x ∈ B, ∃ y ∈ S'.opn, mt S' y < mt S' x ∧ Path uses x y
  edges : ∀ x ∈ B, ∀ y, Edge uses x y → mt S' y ≠ 0 ∧ (y ∈ S.opn → r ≤ mt S y)
/-- In the midst of a gate's uses, those that vis says have been looked at. -/
structure MS (uses : List (Int × Int)) (n : Nat) (S : TS) (i own : Int) (vis : Int → Prop) (st : TS × Int × Bool) (B : List Int) : Prop where
  inv : TI uses n st.1
  opn : st.1.opn = S.opn ++ i :: B
  keep : ∀ x, InR n x → mt S x ≠ 0 → mt st.1 x = mt S x
  me : mt st.1 i = own
  le : st.2.1 ≤ own
  res : st.2.1 < own → ∃ y ∈ S.opn, mt S y = st.2.1 ∧ Path uses i y
  back : ∀ x ∈ B, ∃ y ∈ st.1.opn, mt st.1 y < mt st.1 x ∧ Path uses x y
  edges : ∀ x ∈ B, ∀ y, Edge uses x y → mt st.1 y ≠ 0 ∧ (y ∈ S.opn → st.2.1 ≤ mt S y)
  mine : ∀ u, vis u → u ≠ -1 → mt st.1 u ≠ 0 ∧ (u ∈ S.opn → st.2.1 ≤ mt S u)
  s1 : st.2.2 = true → Edge uses i i
  s2 : vis i → st.2.2 = true
section
variable {uses : List (Int × Int)} {n : Nat}
theorem TI.inR {S : TS} (h : TI uses n S) {x : Int} (hx : x ∈ S.opn) : InR n x := h.base.opn x hx
/-- All that is open behind i leads to i. -/
theorem MS.desc {S : TS} {i own : Int} {vis : Int → Prop} {st : TS × Int × Bool} {B : List Int} (h : MS uses n S i own vis st B) : ∀ (k : Nat) (x : Int), x ∈ st.1.opn → mt st.1 x ≤ (k : Int) → Path uses x i
  | 0, x, hx, hk => by have := (h.inv.cb x hx).1; omega
  | k + 1, x, hx, hk => by
    have hr := h.inv.rch
    rw [h.opn] at hr
    have hx' := hx
    rw [h.opn] at hx'
    rcases List.mem_append.1 hx' with h1 | h1
    · exact (List.pairwise_append.1 hr).2.2 x h1 i (by simp)
    · rcases List.mem_cons.1 h1 with h1 | h1
      · subst h1; exact .refl _
      · obtain ⟨y, hy, hlt, hp⟩ := h.back x h1
        exact hp.trans (h.desc k y hy (by omega))
theorem MS.all {S : TS} {i own : Int} {vis : Int → Prop} {st : TS × Int × Bool} {B : List Int} (h : MS uses n S i own vis st B) {x : Int} (hx : x ∈ st.1.opn) : Path uses x i :=
  h.desc (mt st.1 x).toNat x hx (by have := (h.inv.cb x hx).1; omega)
theorem MS.low {S : TS} {i own : Int} {vis : Int → Prop} {st : TS × Int × Bool} {B : List Int} (hS : TI uses n S) (h : MS uses n S i own vis st B) {x : Int} (hx : x ∈ S.opn) : mt st.1 x < own ∧ mt st.1 x = mt S x ∧ x ∈ st.1.opn := by
  have hr := h.inv.nd
  rw [h.opn] at hr
  have h1 := (List.pairwise_append.1 hr).2.2 x hx i (by simp)
  rw [h.me] at h1
  have h2 : x ∈ st.1.opn := by rw [h.opn]; simp [hx]
  have := hS.cb x hx
  exact ⟨h1, h.keep x (hS.inR hx) (by omega), h2⟩
theorem MS.high {S : TS} {i own : Int} {vis : Int → Prop} {st : TS × Int × Bool} {B : List Int} (h : MS uses n S i own vis st B) {x : Int} (hx : x ∈ B) : own < mt st.1 x ∧ x ∈ st.1.opn := by
  have hr := h.inv.nd
  rw [h.opn] at hr
  have h1 := (List.pairwise_cons.1 (List.pairwise_append.1 hr).2.1).1 x hx
  rw [h.me] at h1
  exact ⟨h1, by rw [h.opn]; simp [hx]⟩
theorem MS.own_in {S : TS} {i own : Int} {vis : Int → Prop} {st : TS × Int × Bool} {B : List Int} (h : MS uses n S i own vis st B) : i ∈ st.1.opn ∧ 0 < own ∧ own ≤ st.1.count ∧ own ≠ maxI := by
  have h2 : i ∈ st.1.opn := by rw [h.opn]; simp
  have h3 := h.inv.cb i h2
  have h4 := (h.inv.op i (h.inv.inR h2)).1 h2
  rw [h.me] at h3 h4
  exact ⟨h2, h3.1, h3.2, h4.2⟩
def Spec (uses : List (Int × Int)) (n : Nat) (rec_ : TS → Int → TS × Int) (f : Nat) : Prop :=
  ∀ (S : TS) (i : Int), unmet S ≤ f → TI uses n S → InR n i → mt S i = 0 → (∀ y ∈ S.opn, Path uses y i) → ∃ B, FS uses n S (rec_ S i).1 i (rec_ S i).2 B
theorem visit_ms (hu : UsesOk n uses) (hn16 : n ≤ 16384) {f : Nat} {rec_ : TS → Int → TS × Int} (ih : Spec uses n rec_ f) {S : TS} (hS : TI uses n S) {i own u : Int} {vis : Int → Prop} {st : TS × Int × Bool} {B : List Int} (hi : InR n i)
    (h : MS uses n S i own vis st B) (hf : unmet st.1 ≤ f) (he : u = -1 ∨ Edge uses i u) (hv : ∀ x, vis x → x ≠ -1 → InR n x) : ∃ B', MS uses n S i own (fun x => vis x ∨ x = u) (visitF rec_ i st u) B' := by
  obtain ⟨hio, hop, hoc, hom⟩ := h.own_in
  unfold visitF
  by_cases h1 : u = -1
  · rw [if_pos h1]
    refine ⟨B, { h with mine := ?_, s2 := ?_ }⟩
    · rintro x (hx | hx) hn
      · exact h.mine x hx hn
      · exact absurd (hx.trans h1) hn
    · rintro (hx | hx)
      · exact h.s2 hx
      · unfold InR at hi; omega
  rw [if_neg h1]
  have hE : Edge uses i u := he.resolve_left h1
  have hur : InR n u := edge_in hu hi hE
  by_cases h2 : st.1.met.getD u.toNat 0 = 0
  · rw [if_pos h2]
    obtain ⟨B2, g⟩ := ih st.1 u hf h.inv hur h2 (fun y hy => (h.all hy).trans (.one hE))
    have hk : ∀ x ∈ S.opn ++ i :: B, mt (rec_ st.1 u).1 x = mt st.1 x := fun x hx => by
      rw [← h.opn] at hx
      have := h.inv.cb x hx
      exact g.keep x (h.inv.inR hx) (by omega)
    refine ⟨B ++ B2, ⟨g.inv, ?_, ?_, ?_, ?_, ?_, ?_, ?_, ?_, h.s1, ?_⟩⟩
    · rw [g.opn, h.opn]; simp
    · intro x hx hn
      have := h.keep x hx hn
      rw [g.keep x hx (by rw [this]; exact hn), this]
    · rw [hk i (by simp), h.me]
    · have := h.le
      show min st.2.1 (rec_ st.1 u).2 ≤ own
      omega
    · intro hlt
      have hlt' : min st.2.1 (rec_ st.1 u).2 < own := hlt
      show ∃ y ∈ S.opn, mt S y = min st.2.1 (rec_ st.1 u).2 ∧ _
      by_cases hc : st.2.1 ≤ (rec_ st.1 u).2
      · have hm : min st.2.1 (rec_ st.1 u).2 = st.2.1 := by omega
        rw [hm] at hlt' ⊢
        exact h.res hlt'
      · have hm : min st.2.1 (rec_ st.1 u).2 = (rec_ st.1 u).2 := by omega
        rw [hm] at hlt' ⊢
        rcases g.res with ⟨hr, _⟩ | ⟨y, hy, hye, hp⟩
        · exfalso
          have hle := h.le
          have hc2 := h.inv.base.cnt
          rw [hr] at hc
          unfold maxI at hc
          omega
        · rw [h.opn] at hy
          rcases List.mem_append.1 hy with hy | hy
          · exact ⟨y, hy, by rw [← (h.low hS hy).2.1]; exact hye, .step hE hp⟩
          · exfalso
            rcases List.mem_cons.1 hy with hy | hy
            · subst hy; rw [h.me] at hye; omega
            · have := (h.high hy).1; omega
    · intro x hx
      rcases List.mem_append.1 hx with hx | hx
      · obtain ⟨y, hy, hlt, hp⟩ := h.back x hx
        refine ⟨y, by rw [g.opn]; simp [hy], ?_, hp⟩
        show mt (rec_ st.1 u).1 y < mt (rec_ st.1 u).1 x
        rw [hk x (by simp [hx]), hk y (by rw [← h.opn]; exact hy)]
        exact hlt
      · exact g.back x hx
    · intro x hx y hxy
      show mt (rec_ st.1 u).1 y ≠ 0 ∧ (y ∈ S.opn → min st.2.1 (rec_ st.1 u).2 ≤ mt S y)
      rcases List.mem_append.1 hx with hx | hx
      · obtain ⟨a, b⟩ := h.edges x hx y hxy
        have hyr := edge_in hu (h.inv.inR (h.high hx).2) hxy
        refine ⟨by rw [g.keep y hyr a]; exact a, fun hy => ?_⟩
        have := b hy
        omega
      · obtain ⟨a, b⟩ := g.edges x hx y hxy
        refine ⟨a, fun hy => ?_⟩
        have := b (h.low hS hy).2.2
        rw [(h.low hS hy).2.1] at this
        omega
    · rintro x (hx | hx) hn
      · show mt (rec_ st.1 u).1 x ≠ 0 ∧ (x ∈ S.opn → min st.2.1 (rec_ st.1 u).2 ≤ mt S x)
        obtain ⟨a, b⟩ := h.mine x hx hn
        refine ⟨by rw [g.keep x (hv x hx hn) a]; exact a, fun hy => ?_⟩
        have := b hy
        omega
      · subst hx
        refine ⟨g.me, fun hy => ?_⟩
        have := (h.low hS hy).2.1
        have h4 := hS.cb x hy
        unfold mt at this h4
        rw [h2] at this
        omega
    · rintro (hx | hx)
      · exact h.s2 hx
      · subst hx
        have := h.me
        unfold mt at this
        omega
  · rw [if_neg h2]
    have hmu : mt st.1 u ≠ 0 := h2
    refine ⟨B, ⟨h.inv, h.opn, h.keep, h.me, ?_, ?_, h.back, ?_, ?_, ?_, ?_⟩⟩
    · have := h.le
      show min st.2.1 _ ≤ own
      omega
    · intro hlt
      have hlt' : min st.2.1 (mt st.1 u) < own := hlt
      show ∃ y ∈ S.opn, mt S y = min st.2.1 (mt st.1 u) ∧ _
      by_cases hc : st.2.1 ≤ mt st.1 u
      · have hm : min st.2.1 (mt st.1 u) = st.2.1 := by omega
        rw [hm] at hlt' ⊢
        exact h.res hlt'
      · have hm : min st.2.1 (mt st.1 u) = mt st.1 u := by omega
        rw [hm] at hlt' ⊢
        have hc2 := h.inv.base.cnt
        have hmx : mt st.1 u ≠ maxI := by
          intro e
          rw [e] at hc
          have := h.le
          unfold maxI at hc
          omega
        have huo := (h.inv.op u hur).2 ⟨hmu, hmx⟩
        rw [h.opn] at huo
        rcases List.mem_append.1 huo with hy | hy
        · exact ⟨u, hy, ((h.low hS hy).2.1).symm, .one hE⟩
        · exfalso
          rcases List.mem_cons.1 hy with hy | hy
          · subst hy; rw [h.me] at hlt'; omega
          · have := (h.high hy).1; omega
    · intro x hx y hxy
      obtain ⟨a, b⟩ := h.edges x hx y hxy
      refine ⟨a, fun hy => ?_⟩
      have := b hy
      show min st.2.1 _ ≤ mt S y
      omega
    · rintro x (hx | hx) hn
      · obtain ⟨a, b⟩ := h.mine x hx hn
        refine ⟨a, fun hy => ?_⟩
        have := b hy
        show min st.2.1 _ ≤ mt S x
        omega
      · subst hx
        refine ⟨hmu, fun hy => ?_⟩
        show min st.2.1 (mt st.1 x) ≤ mt S x
        rw [(h.low hS hy).2.1]
        omega
    · intro hs
      simp only [Bool.or_eq_true, decide_eq_true_eq] at hs
      rcases hs with hs | hs
      · exact h.s1 hs
      · exact hs ▸ hE
    · rintro (hx | hx)
      · simp [h.s2 hx]
      · simp [hx]
end
section
variable {uses : List (Int × Int)} {n : Nat}
theorem getD_set {L : List Int} {i j : Nat} {x d : Int} (hi : i < L.length) : (L.set i x).getD j d = if i = j then x else L.getD j d := by
  simp only [List.getD, List.getElem?_set]
  by_cases h : i = j
  · subst h; simp [hi]
  · simp [h]
theorem shut_mt {bad : Bool} : ∀ (gs : List Int) {S : TS}, S.met.length = n → (∀ g ∈ gs, InR n g) → ∀ x, InR n x → mt (shutAll bad S gs) x = if x ∈ gs then maxI else mt S x
  | [], S, _, _, x, _ => by simp [shutAll]
  | g :: r, S, hl, hg, x, hx => by
    have ih := shut_mt (bad := bad) r (S := shutOne bad S g) (by simp [shutOne, hl]) (fun y hy => hg y (by simp [hy])) x hx
    have e : shutAll bad S (g :: r) = shutAll bad (shutOne bad S g) r := rfl
    rw [e, ih]
    have hgr := hg g (by simp)
    have h2 : mt (shutOne bad S g) x = if x = g then maxI else mt S x := by
      unfold mt shutOne
      simp only
      rw [getD_set (by rw [hl]; unfold InR at hgr; omega)]
      unfold InR at hgr hx
      by_cases h : x = g
      · subst h; simp
      · rw [if_neg (by omega), if_neg h]
    rw [h2]
    by_cases h : x ∈ r
    · simp [h]
    · by_cases h' : x = g
      · simp [h']
      · simp [h, h']
theorem shutOne_first {bad : Bool} {S : TS} {g : Int} (h0 : 0 ≤ g) : (S.first ≠ -1 → (shutOne bad S g).first ≠ -1 ∧ (shutOne bad S g).first ≤ S.first) ∧ (bad = true → (shutOne bad S g).first ≠ -1 ∧ (shutOne bad S g).first ≤ g) ∧ ((shutOne bad S g).first = S.first ∨ (bad = true ∧ (shutOne bad S g).first = g)) := by
  unfold shutOne
  simp only
  by_cases hb : bad = true
  · subst hb
    by_cases h1 : S.first = -1
    · simp [h1]; omega
    · by_cases h2 : g < S.first
      · simp [h1, h2]; omega
      · simp [h1, h2]; omega
  · have : bad = false := by simpa using hb
    subst this
    simp
theorem shut_first {bad : Bool} : ∀ (gs : List Int) {S : TS}, (∀ g ∈ gs, 0 ≤ g) → (S.first ≠ -1 → (shutAll bad S gs).first ≠ -1 ∧ (shutAll bad S gs).first ≤ S.first) ∧ (bad = true → ∀ g ∈ gs, (shutAll bad S gs).first ≠ -1 ∧ (shutAll bad S gs).first ≤ g) ∧ ((shutAll bad S gs).first = S.first ∨ (bad = true ∧ (shutAll bad S gs).first ∈ gs))
  | [], S, _ => by simp [shutAll]
  | g :: r, S, hg => by
    obtain ⟨a, b, c⟩ := shutOne_first (bad := bad) (S := S) (hg g (by simp))
    obtain ⟨a2, b2, c2⟩ := shut_first (bad := bad) r (S := shutOne bad S g) (fun y hy => hg y (by simp [hy]))
    have e : shutAll bad S (g :: r) = shutAll bad (shutOne bad S g) r := rfl
    rw [e]
    refine ⟨fun h => ?_, fun hb y hy => ?_, ?_⟩
    · obtain ⟨h1, h2⟩ := a h
      obtain ⟨h3, h4⟩ := a2 h1
      exact ⟨h3, by omega⟩
    · rcases List.mem_cons.1 hy with hy | hy
      · subst hy
        obtain ⟨h1, h2⟩ := b hb
        obtain ⟨h3, h4⟩ := a2 h1
        exact ⟨h3, by omega⟩
      · exact b2 hb y hy
    · rcases c2 with c2 | ⟨hb, c2⟩
      · rw [c2]
        rcases c with c | ⟨hb, c⟩
        · exact .inl c
        · exact .inr ⟨hb, by simp [c]⟩
      · exact .inr ⟨hb, by simp [c2]⟩
theorem meet_ti (hn16 : n ≤ 16384) {S : TS} {i : Int} (h : TI uses n S) (hi : InR n i) (h0 : mt S i = 0) (hp : ∀ y ∈ S.opn, Path uses y i) : MS uses n S i ((S.count : Int) + 1) (fun _ => False) (meetF S i, (S.count : Int) + 1, false) [] := by
  obtain ⟨hm, hum⟩ := meet_good h.base hi.1 hi.2 h0
  have hc := hm.cnt
  have hc' : S.count + 1 ≤ n := by have : (meetF S i).count = S.count + 1 := rfl; omega
  have hset : ∀ x, InR n x → mt (meetF S i) x = if x = i then (S.count : Int) + 1 else mt S x := by
    intro x hx
    unfold mt meetF
    simp only
    unfold InR at hx hi
    rw [getD_set (by rw [h.base.len]; omega)]
    by_cases e : x = i
    · subst e; simp
    · rw [if_neg (by omega), if_neg e]
  have hio : i ∉ S.opn := fun hio => by have := h.cb i hio; omega
  have hof : ∀ x ∈ S.opn, mt (meetF S i) x = mt S x := fun x hx => by rw [hset x (h.inR hx), if_neg (show ¬ x = i from fun e => hio (e ▸ hx))]
  have hme : mt (meetF S i) i = (S.count : Int) + 1 := by rw [hset i hi, if_pos rfl]
  refine ⟨⟨hm, ?_, ?_, ?_, ?_, ?_, ?_, h.f2⟩, rfl, ?_, hme, Int.le_refl _, fun hh => absurd hh (Int.lt_irrefl _), by simp, by simp, by simp, by simp, by simp⟩
  · show (S.opn ++ [i]).Pairwise _
    rw [List.pairwise_append]
    refine ⟨?_, by simp, ?_⟩
    · refine List.Pairwise.imp_of_mem ?_ h.nd
      intro x y hx hy hxy
      rw [hof x hx, hof y hy]; exact hxy
    · intro x hx y hy
      simp only [List.mem_singleton] at hy
      subst hy
      rw [hof x hx, hme]
      have := h.cb x hx
      omega
  · intro x hx
    show x ∈ S.opn ++ [i] ↔ _
    rw [hset x hx]
    by_cases e : x = i
    · subst e
      simp
      unfold maxI
      omega
    · rw [if_neg e, ← h.op x hx]
      simp [e]
  · intro x hx
    have hx' : x ∈ S.opn ++ [i] := hx
    show _ ∧ _ ≤ ((S.count + 1 : Nat) : Int)
    rcases List.mem_append.1 hx' with hx | hx
    · rw [hof x hx]
      have := h.cb x hx
      omega
    · simp only [List.mem_singleton] at hx
      subst hx
      rw [hme]; omega
  · intro x y hx he hxy
    rw [hset x hx] at he
    by_cases e : x = i
    · rw [if_pos e] at he; unfold maxI at he; omega
    · rw [if_neg e] at he
      have hy := h.cl x y hx he hxy
      by_cases e2 : y = i
      · subst e2; rw [h0] at hy; cases hy
      · unfold mt at hy ⊢
        unfold meetF
        simp only
        rw [getD_set (by rw [h.base.len]; unfold InR at hi; omega)]
        by_cases e3 : i.toNat = y.toNat
        · rw [← e3] at hy; unfold mt at h0; rw [h0] at hy; cases hy
        · rw [if_neg e3]; exact hy
  · show (S.opn ++ [i]).Pairwise _
    rw [List.pairwise_append]
    refine ⟨h.rch, by simp, ?_⟩
    intro x hx y hy
    simp only [List.mem_singleton] at hy
    subst hy
    exact hp x hx
  · intro x hx he hcy
    rw [hset x hx] at he
    by_cases e : x = i
    · rw [if_pos e] at he; unfold maxI at he; omega
    · rw [if_neg e] at he
      exact h.f1 x hx he hcy
  · intro x hx hnz
    show mt (meetF S i) x = _
    rw [hset x hx, if_neg (show ¬ x = i from fun e => hnz (e ▸ h0))]
/-- What is closed leads to what is closed alone. -/
theorem closed_path (hu : UsesOk n uses) {S : TS} (h : TI uses n S) {x y : Int} (hp : Path uses x y) : InR n x → mt S x = maxI → mt S y = maxI := by
  induction hp with
  | refl => exact fun _ h => h
  | step e _ ih => exact fun hr hc => ih (edge_in hu hr e) (h.cl _ _ hr hc e)
theorem leave_fs (hu : UsesOk n uses) {S : TS} (hS : TI uses n S) {i own : Int} {vis : Int → Prop} {st : TS × Int × Bool} {B : List Int} (hi : InR n i) (hi0 : mt S i = 0)
    (h : MS uses n S i own vis st B) (hv : ∀ u, Edge uses i u → vis u) : ∃ B', FS uses n S (leaveF S.opn.length own st).1 i (leaveF S.opn.length own st).2 B' := by
  obtain ⟨hio, hop, hoc, hom⟩ := h.own_in
  unfold leaveF
  by_cases hl : st.2.1 < own
  · rw [if_pos hl]
    obtain ⟨y, hy, hye, hyp⟩ := h.res hl
    refine ⟨i :: B, h.inv, h.opn, h.keep, by show mt st.1 i ≠ 0; rw [h.me]; omega, .inr ⟨y, hy, hye, hyp⟩, ?_, ?_⟩
    · intro x hx
      rcases List.mem_cons.1 hx with hx | hx
      · subst hx
        refine ⟨y, (h.low hS hy).2.2, ?_, hyp⟩
        show mt st.1 y < mt st.1 x
        rw [h.me]; exact (h.low hS hy).1
      · exact h.back x hx
    · intro x hx z hxz
      rcases List.mem_cons.1 hx with hx | hx
      · subst hx
        exact h.mine z (hv z hxz) hxz.1
      · exact h.edges x hx z hxz
  · rw [if_neg hl]
    have hd : st.1.opn.drop S.opn.length = i :: B := by rw [h.opn]; simp
    have ht : st.1.opn.take S.opn.length = S.opn := by rw [h.opn]; simp
    simp only [hd, ht]
    obtain ⟨bad, hbad⟩ : ∃ bad, (st.2.2 || decide (1 < (i :: B).length)) = bad := ⟨_, rfl⟩
    rw [hbad]
    have hgr : ∀ g ∈ i :: B, InR n g := fun g hg => h.inv.inR (by rw [h.opn]; exact List.mem_append_right _ hg)
    obtain ⟨T, hT⟩ : ∃ T : TS, T = { st.1 with opn := S.opn } := ⟨_, rfl⟩
    rw [← hT]
    have hTm : ∀ x, mt T x = mt st.1 x := by rw [hT]; exact fun _ => rfl
    have hTf : T.first = st.1.first := by rw [hT]
    have hmt := shut_mt (bad := bad) (i :: B) (S := T) (n := n) (by rw [hT]; exact h.inv.base.len) hgr
    obtain ⟨p1, p2, p3⟩ := shut_first (bad := bad) (i :: B) (S := T) (fun g hg => (hgr g hg).1)
    have hTg : TInv n T := by
      subst hT
      exact ⟨h.inv.base.len, fun x hx => hS.base.opn x hx, h.inv.base.cnt, by have := h.inv.base.olen; rw [h.opn] at this; simp at this; show S.opn.length ≤ st.1.count; omega⟩
    obtain ⟨q1, q2, q3⟩ := shutAll_good (bad := bad) (i :: B) hTg
    have q3' : (shutAll bad T (i :: B)).opn = S.opn := by rw [q3, hT]
    have hnot : ∀ x ∈ S.opn, x ∉ i :: B := by
      intro x hx hg
      have h1 := (h.low hS hx).1
      rcases List.mem_cons.1 hg with e | e
      · subst e; rw [h.me] at h1; omega
      · have := (h.high e).1; omega
    have hsm : ∀ x ∈ S.opn, mt (shutAll bad T (i :: B)) x = mt S x := by
      intro x hx
      rw [hmt x (hS.inR hx), if_neg (hnot x hx), hTm, (h.low hS hx).2.1]
    have hedge : ∀ x ∈ i :: B, ∀ y, Edge uses x y → y ∉ S.opn ∧ mt st.1 y ≠ 0 := by
      intro x hx y hxy
      have hle : mt st.1 y ≠ 0 ∧ (y ∈ S.opn → st.2.1 ≤ mt S y) := by
        rcases List.mem_cons.1 hx with hx | hx
        · subst hx; exact h.mine y (hv y hxy) hxy.1
        · exact h.edges x hx y hxy
      refine ⟨fun hy => ?_, hle.1⟩
      have h1 := hle.2 hy
      have h2 := (h.low hS hy).1
      rw [(h.low hS hy).2.1] at h2
      omega
    have hcl : ∀ x ∈ i :: B, ∀ y, Edge uses x y → y ∈ i :: B ∨ mt st.1 y = maxI := by
      intro x hx y hxy
      obtain ⟨a, b⟩ := hedge x hx y hxy
      by_cases hm : mt st.1 y = maxI
      · exact .inr hm
      · have hyr := edge_in hu (hgr x hx) hxy
        have := (h.inv.op y hyr).2 ⟨b, hm⟩
        rw [h.opn] at this
        exact .inl ((List.mem_append.1 this).resolve_left a)
    have hcyc : ∀ x ∈ i :: B, bad = true → Cyc uses x := by
      intro x hx hb
      rcases List.mem_cons.1 hx with e | e
      · subst e
        rcases B with _ | ⟨b, r⟩
        · rw [hb] at hbad
          simp at hbad
          exact ⟨x, h.s1 hbad, .refl x⟩
        · have hbo := (h.high (x := b) (by simp)).2
          have h1 := h.all hbo
          have hr := h.inv.rch
          rw [h.opn] at hr
          have h2 := (List.pairwise_cons.1 (List.pairwise_append.1 hr).2.1).1 b (by simp)
          refine cyc_of h2 h1 (fun e => ?_)
          have := (h.high (x := b) (by simp)).1
          rw [← e, h.me] at this; omega
      · have hbo := (h.high e).2
        have h1 := h.all hbo
        have hr := h.inv.rch
        rw [h.opn] at hr
        have h2 := (List.pairwise_cons.1 (List.pairwise_append.1 hr).2.1).1 x e
        refine cyc_of h1 h2 (fun e2 => ?_)
        have := (h.high e).1
        rw [e2, h.me] at this; omega
    have hkeep : ∀ x, InR n x → mt S x ≠ 0 → x ∉ i :: B := by
      intro x hx hnz hg
      rcases List.mem_cons.1 hg with e | e
      · exact hnz (e ▸ hi0)
      · have h1 := h.keep x hx hnz
        have h2 := (h.inv.op x hx).1 (h.high e).2
        rw [h1] at h2
        exact hnot x ((hS.op x hx).2 h2) hg
    refine ⟨[], ⟨q1, ?_, ?_, ?_, ?_, ?_, ?_, ?_⟩, by simp [q3'], ?_, ?_, .inl ⟨rfl, rfl⟩, by simp, by simp⟩
    · rw [q3']
      refine List.Pairwise.imp_of_mem ?_ hS.nd
      intro x y hx hy hxy
      rw [hsm x hx, hsm y hy]; exact hxy
    · intro x hx
      rw [q3', hmt x hx]
      by_cases hg : x ∈ i :: B
      · rw [if_pos hg]
        exact ⟨fun hs => absurd hg (hnot x hs), fun hh => absurd rfl hh.2⟩
      · rw [if_neg hg, hTm, ← h.inv.op x hx, h.opn, List.mem_append]
        exact ⟨.inl, fun hh => hh.resolve_right hg⟩
    · intro x hx
      rw [q3'] at hx
      rw [hsm x hx]
      have h1 := hS.cb x hx
      have h2 := (h.low hS hx)
      have h3 := h.inv.cb x h2.2.2
      rw [h2.2.1] at h3
      have hc : (shutAll bad T (i :: B)).count = st.1.count := by
        have : ∀ (gs : List Int) (U : TS), (shutAll bad U gs).count = U.count := by
          intro gs
          induction gs with
          | nil => exact fun _ => rfl
          | cons g r ih => exact fun U => (ih (shutOne bad U g)).trans rfl
        rw [this, hT]
      rw [hc]; exact h3
    · intro x y hx he hxy
      rw [hmt x hx, hTm] at he
      have hyr := edge_in hu hx hxy
      rw [hmt y hyr, hTm]
      by_cases hg : x ∈ i :: B
      · rcases hcl x hg y hxy with h1 | h1
        · rw [if_pos h1]
        · split
          · rfl
          · exact h1
      · rw [if_neg hg] at he
        split
        · rfl
        · exact h.inv.cl x y hx he hxy
    · rw [q3']; exact hS.rch
    · intro x hx he hcy
      rw [hmt x hx, hTm] at he
      by_cases hg : x ∈ i :: B
      · have hb : bad = true := by
          rw [← hbad]
          rcases B with _ | ⟨b, r⟩
          · simp only [List.mem_singleton] at hg
            subst hg
            obtain ⟨y, hy, hyp⟩ := hcy
            rcases hcl x (by simp) y hy with h1 | h1
            · simp only [List.mem_singleton] at h1
              subst h1
              simp [h.s2 (hv y hy)]
            · have h2 := closed_path hu h.inv hyp (edge_in hu hi hy) h1
              rw [h.me] at h2
              exact absurd h2 hom
          · simp
        exact p2 hb x hg
      · rw [if_neg hg] at he
        obtain ⟨h1, h2⟩ := h.inv.f1 x hx he hcy
        rw [← hTf] at h1 h2
        obtain ⟨h3, h4⟩ := p1 h1
        exact ⟨h3, by omega⟩
    · intro hf
      rcases p3 with p3 | ⟨hb, p3⟩
      · rw [p3, hTf] at hf ⊢
        exact h.inv.f2 hf
      · exact ⟨hgr _ p3, hcyc _ p3 hb⟩
    · intro x hx hnz
      rw [hmt x hx, if_neg (hkeep x hx hnz), hTm]
      exact h.keep x hx hnz
    · rw [hmt i hi, if_pos (by simp)]
      decide
theorem follow_fs (hu : UsesOk n uses) (hn16 : n ≤ 16384) : ∀ f, Spec uses n (followF uses f) f
  | 0, S, i, hf, h, hi, h0, _ => by
    exfalso
    obtain ⟨_, b⟩ := meet_good h.base hi.1 hi.2 h0
    omega
  | f + 1, S, i, hf, h, hi, h0, hp => by
    obtain ⟨hm, hum⟩ := meet_good h.base hi.1 hi.2 h0
    have m0 := meet_ti hn16 h hi h0 hp
    obtain ⟨p, _, hpe, hp1, hp2⟩ := use_at hu (i := i.toNat) (by unfold InR at hi; omega)
    have e1 : ∀ u, u = p.1 ∨ u = p.2 → u = -1 ∨ Edge uses i u := by
      intro u hu'
      by_cases e : u = -1
      · exact .inl e
      · refine .inr ⟨e, ?_⟩
        rw [hpe]
        rcases hu' with h | h
        · exact .inl h.symm
        · exact .inr h.symm
    have ih := follow_fs hu hn16 f
    have hv1 : ∀ u, u = p.1 ∨ u = p.2 → u ≠ -1 → InR n u := by
      rintro u (rfl | rfl) hne
      · exact hp1.resolve_left hne
      · exact hp2.resolve_left hne
    have ihg : ∀ (S : TS) (i : Int), unmet S ≤ f → TInv n S → 0 ≤ i → i < (n : Int) → S.met.getD i.toNat 0 = 0 → TGo n S (followF uses f S i).1 := follow_good hu f
    have g1 := visit_good ihg (i := i) (u := p.1) (st := (meetF S i, (S.count : Int) + 1, false)) (by show unmet (meetF S i) ≤ f; omega) hm hp1
    obtain ⟨B1, m1⟩ := visit_ms hu hn16 ih h hi m0 (by show unmet (meetF S i) ≤ f; omega) (e1 p.1 (.inl rfl)) (fun _ h => h.elim)
    obtain ⟨B2, m2⟩ := visit_ms hu hn16 ih h hi m1 (Nat.le_trans g1.le (by show unmet (meetF S i) ≤ f; omega)) (e1 p.2 (.inr rfl)) (by
      rintro x (hx | hx) hne
      · exact hx.elim
      · exact hv1 x (.inl hx) hne)
    have := leave_fs hu h hi h0 m2 (by
      intro u hE
      obtain ⟨_, hE⟩ := hE
      rw [hpe] at hE
      rcases hE with hE | hE
      · exact .inl (.inr hE.symm)
      · exact .inr hE.symm)
    unfold followF
    rw [hpe]
    exact this
theorem ts0_ti : TI uses n (ts0 n) := by
  have hz : ∀ x, mt (ts0 n) x = 0 := by
    intro x
    unfold mt ts0
    simp only [List.getD, List.getElem?_replicate]
    split <;> rfl
  refine ⟨ts0_inv n, by simp [ts0], ?_, by simp [ts0], ?_, by simp [ts0], ?_, by simp [ts0]⟩
  · intro x _
    rw [hz]
    simp [ts0]
  · intro x y _ h
    rw [hz] at h
    cases h
  · intro x _ h
    rw [hz] at h
    cases h
theorem tsK_ti (hu : UsesOk n uses) (hn16 : n ≤ 16384) : ∀ k, k ≤ n → TI uses n (tsK uses n k) ∧ (tsK uses n k).opn = [] ∧ ∀ j : Nat, j < k → mt (tsK uses n k) (j : Int) ≠ 0
  | 0, _ => ⟨ts0_ti, rfl, fun j h => absurd h (by omega)⟩
  | k + 1, hk => by
    obtain ⟨h1, h2, h3⟩ := tsK_ti hu hn16 k (by omega)
    unfold tsK
    by_cases h0 : (tsK uses n k).met.getD k 0 = 0
    · rw [if_pos h0]
      obtain ⟨B, g⟩ := follow_fs hu hn16 n (tsK uses n k) (k : Int) (unmet_le h1.base) h1 ⟨by omega, by omega⟩ (by unfold mt; rw [Int.toNat_natCast]; exact h0) (by rw [h2]; simp)
      refine ⟨g.inv, ?_, fun j hj => ?_⟩
      · rcases g.res with ⟨_, hB⟩ | ⟨y, hy, _⟩
        · rw [g.opn, h2, hB]; rfl
        · rw [h2] at hy; simp at hy
      · by_cases e : j = k
        · subst e; exact g.me
        · have := h3 j (by omega)
          rw [g.keep (j : Int) ⟨by omega, by omega⟩ this]
          exact this
    · rw [if_neg h0]
      refine ⟨h1, h2, fun j hj => ?_⟩
      by_cases e : j = k
      · subst e
        unfold mt
        rw [Int.toNat_natCast]
        exact h0
      · exact h3 j (by omega)
end
/-- The first gate that comes round is the least that does. -/
theorem firstF_some {uses : List (Int × Int)} (hu : UsesOk uses.length uses) (hn16 : uses.length ≤ 16384) (h : firstF uses ≠ -1) : InR uses.length (firstF uses) ∧ Cyc uses (firstF uses) :=
  (tsK_ti hu hn16 uses.length (Nat.le_refl _)).1.f2 h
theorem firstF_least {uses : List (Int × Int)} (hu : UsesOk uses.length uses) (hn16 : uses.length ≤ 16384) {x : Int} (hx : InR uses.length x) (h : Cyc uses x) : firstF uses ≠ -1 ∧ firstF uses ≤ x := by
  obtain ⟨h1, h2, h3⟩ := tsK_ti hu hn16 uses.length (Nat.le_refl _)
  refine h1.f1 x hx ?_ h
  have h4 := h3 x.toNat (by unfold InR at hx; omega)
  rw [Int.toNat_of_nonneg hx.1] at h4
  have h5 := h1.op x hx
  rw [h2] at h5
  simp at h5
  exact h5 h4
open Classical in
/-- How many gates a gate leads to: where no gate comes round, a gate that is used leads to fewer. -/
noncomputable def rank (uses : List (Int × Int)) (x : Int) : Nat := (List.range uses.length).countP (fun y : Nat => decide (Path uses x (y : Int)))
theorem countP_lt {α : Type} {p q : α → Bool} : ∀ (l : List α), (∀ a ∈ l, p a = true → q a = true) → (∃ a ∈ l, q a = true ∧ p a = false) → l.countP p < l.countP q
  | [], _, h => by obtain ⟨a, ha, _⟩ := h; simp at ha
  | a :: l, h, he => by
    have hm : l.countP p ≤ l.countP q := List.countP_mono_left (fun b hb => h b (by simp [hb]))
    simp only [List.countP_cons]
    obtain ⟨b, hb, h1, h2⟩ := he
    rcases List.mem_cons.1 hb with e | e
    · subst e
      rw [h1, h2]
      simp
      omega
    · have ih := countP_lt l (fun c hc => h c (by simp [hc])) ⟨b, e, h1, h2⟩
      have ha := h a (by simp)
      by_cases hp : p a = true
      · rw [hp, ha hp]; simp; omega
      · have : p a = false := by simpa using hp
        rw [this]
        simp
        omega
theorem rank_lt {uses : List (Int × Int)} (hu : UsesOk uses.length uses) (hn16 : uses.length ≤ 16384) (h : firstF uses = -1) {x y : Int} (hx : InR uses.length x) (hE : Edge uses x y) : rank uses y < rank uses x := by
  unfold rank
  refine countP_lt _ (fun a _ ha => ?_) ⟨x.toNat, by unfold InR at hx; exact List.mem_range.2 (by omega), ?_, ?_⟩
  · simp only [decide_eq_true_eq] at ha ⊢
    exact .step hE ha
  · rw [Int.toNat_of_nonneg hx.1]
    simp only [decide_eq_true_eq]
    exact .refl x
  · rw [Int.toNat_of_nonneg hx.1]
    simp only [decide_eq_false_iff_not]
    intro hp
    exact (firstF_least hu hn16 hx ⟨y, hE, hp⟩).1 h
end Go.Proofs.Ytdodhbfplglbkaa
