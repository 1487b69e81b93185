/- The document's answer for a clause's normal form (trestleref01.Put, Form0, Normal): a literal more in a normal clause; the normal form of a right clause, put together literal by literal. -/
import Derived.Test.YtcppmjgglcobcaaWorks
namespace Go.Proofs.Ytcppmjgglcobcaa
open Go.RowKit Go.Shelf Go.Lib Go.Sort

/-- A literal more in a normal clause. -/
def PutPost (B : Nat) (v : Value) (w : World) (ns : List Int) (x : Int) (e : Ending) (w' : World) : Prop :=
  Below w.heap.size w w' ∧
  ((-x ∈ ns ∧ e = .returned (.tuple #[v, .bool false])) ∨
   (-x ∉ ns ∧ ∃ v' ms, e = .returned (.tuple #[v', .bool true]) ∧ Owns B w' v' ms ∧ NCl ms ∧ ∀ y, y ∈ ms ↔ y ∈ ns ∨ y = x))

/-- Before place k all variables are less than x's. -/
def Before (ns : List Int) (x : Int) (k : Nat) : Prop := ∀ j, j < k → absI (ns.getD j 0) < absI x

theorem before_not {ns : List Int} {x y : Int} {k : Nat} (hn : NCl ns) (hb : Before ns x k) (hk : k < ns.length → absI x < absI (ns.getD k 0)) (hy : y ∈ ns) : absI y ≠ absI x := by
  obtain ⟨j, hj, e⟩ := List.getElem_of_mem hy
  have hg : ns.getD j 0 = y := by simp [List.getD, hj, e]
  by_cases hjk : j < k
  · have := hb j hjk; rw [hg] at this; omega
  · have h1 := hk (by omega)
    by_cases e2 : j = k
    · subst e2; rw [hg] at h1; omega
    · have hp := List.pairwise_iff_getElem.1 hn.1 k j (by omega) hj (by omega)
      have hgk : ns.getD k 0 = ns[k] := by simp [List.getD, show k < ns.length by omega]
      rw [hgk] at h1
      rw [e] at hp; omega

theorem insert_ncl {ns : List Int} {x : Int} {k : Nat} (hn : NCl ns) (hx : isF x = true) (hb : Before ns x k) (hk : k < ns.length → absI x < absI (ns.getD k 0)) :
    NCl (ns.take k ++ [x] ++ ns.drop k) ∧ ∀ y, y ∈ ns.take k ++ [x] ++ ns.drop k ↔ y ∈ ns ∨ y = x := by
  have hm : ∀ y, y ∈ ns.take k ++ [x] ++ ns.drop k ↔ y ∈ ns ∨ y = x := by
    intro y
    have : y ∈ ns ↔ y ∈ ns.take k ∨ y ∈ ns.drop k := by
      rw [← List.mem_append, List.take_append_drop]
    simp only [List.mem_append, List.mem_singleton, this]
    constructor
    · rintro ((h | h) | h)
      · exact .inl (.inl h)
      · exact .inr h
      · exact .inl (.inr h)
    · rintro ((h | h) | h)
      · exact .inl (.inl h)
      · exact .inr h
      · exact .inl (.inr h)
  refine ⟨⟨?_, ?_⟩, hm⟩
  · have hlt : ∀ a ∈ ns.take k, absI a < absI x := by
      intro a ha
      obtain ⟨j, hj, e⟩ := List.getElem_of_mem ha
      rw [List.length_take] at hj
      have := hb j (by omega)
      rw [List.getElem_take] at e
      simpa [List.getD, show j < ns.length by omega, e] using this
    have hgt : ∀ a ∈ ns.drop k, absI x < absI a := by
      intro a ha
      obtain ⟨j, hj, e⟩ := List.getElem_of_mem ha
      rw [List.length_drop] at hj
      have h1 := hk (by omega)
      rw [List.getElem_drop] at e
      have hgk : ns.getD k 0 = ns[k] := by simp [List.getD, show k < ns.length by omega]
      by_cases e0 : j = 0
      · subst e0; simp only [Nat.add_zero] at e; rw [← e, ← hgk]; exact h1
      · have hp := List.pairwise_iff_getElem.1 hn.1 k (k + j) (by omega) (by omega) (by omega)
        rw [hgk] at h1; rw [e] at hp; omega
    rw [List.pairwise_append, List.pairwise_append]
    refine ⟨⟨hn.1.sublist (List.take_sublist _ _), by simp, fun a ha b hb' => ?_⟩, hn.1.sublist (List.drop_sublist _ _), fun a ha b hb' => ?_⟩
    · rw [List.mem_singleton] at hb'; subst hb'; exact hlt a ha
    · rw [List.mem_append, List.mem_singleton] at ha
      rcases ha with ha | ha
      · have := hlt a ha; have := hgt b hb'; omega
      · subst ha; exact hgt b hb'
  · rw [List.all_eq_true]
    intro y hy
    rcases (hm y).1 hy with h | h
    · exact List.all_eq_true.1 hn.2 y h
    · subst h; exact hx

theorem reads_take {w : World} {B n k : Nat} {A : Option Addr} {xs : List Value} (h : Reads w B 1 A n xs) (hk : k ≤ n) : Reads w B 1 A k (xs.take k) := by
  refine ⟨by rw [List.length_take, h.1]; omega, fun hp => ?_⟩
  obtain ⟨ad, e, hb, hc⟩ := h.2 (by omega)
  refine ⟨ad, e, hb, fun j u hu => hc j u ?_⟩
  rw [List.getElem?_take] at hu
  split at hu
  · exact hu
  · cases hu

theorem ncl_no_neg {ns : List Int} {x : Int} (hn : NCl ns) (hx : x ∈ ns) : -x ∉ ns := by
  have h0 : ∀ y ∈ ns, y ≠ 0 := fun y hy => (isF_yes (List.all_eq_true.1 hn.2 y hy)).1
  exact taut_false.1 (NF.no_taut (zs := ns) ⟨hn.1, fun _ => Iff.rfl⟩ h0) x hx

theorem put_there {B g n cap : Nat} {w w' : World} {ns : List Int} {x : Int} (hb : Below w.heap.size w w') (hn : NCl ns) (hl : ns.length = n) (ho : w.ownsRow B 3 1 (.slice (some ⟨g, 0, none⟩) n cap) n (ints ns)) (hx : x ∈ ns) {e : Ending} (he : e = .returned (.tuple #[.slice (some ⟨g, 0, none⟩) n cap, .bool true])) :
    PutPost B (.slice (some ⟨g, 0, none⟩) n cap) w ns x e w' := by
  subst hl
  refine ⟨hb, .inr ⟨ncl_no_neg hn hx, _, ns, he, ⟨g, cap, rfl, own_below ho hb⟩, hn, fun y => ⟨.inl, ?_⟩⟩⟩
  rintro (h | h)
  · exact h
  · subst h; exact hx

theorem put_new {B n k : Nat} {w w' : World} {v v' : Value} {ns : List Int} {x ax : Int} (hb : Below w.heap.size w w') (hB : B ≤ w.heap.size) (hn : NCl ns) (hl : ns.length = n) (hx : isF x = true) (hax : absI x = ax) (hbf : Before ns x k) (hk : k ≤ n) (hk' : k < n → ax < absI (ns.getD k 0))
    (ho : w'.ownsRow w.heap.size 3 1 v' (0 + k + 1 + (n - k)) ([] ++ (ints ns).take k ++ [.int .i64 x] ++ (ints ns).drop (k * 1))) {e : Ending} (he : e = .returned (.tuple #[v', .bool true])) :
    PutPost B v w ns x e w' := by
  subst hl hax
  obtain ⟨h1, h2⟩ := insert_ncl hn hx hbf hk'
  have hlen : (ns.take k ++ [x] ++ ns.drop k).length = 0 + k + 1 + (ns.length - k) := by simp; omega
  have hi : ints (ns.take k ++ [x] ++ ns.drop k) = [] ++ (ints ns).take k ++ [.int .i64 x] ++ (ints ns).drop (k * 1) := by simp [List.map_take, List.map_drop]
  refine ⟨hb, .inr ⟨fun hneg => before_not hn hbf hk' hneg (absI_neg_eq x), v', _, he, ?_, h1, h2⟩⟩
  have ho' : w'.ownsRow w.heap.size 3 1 v' (ns.take k ++ [x] ++ ns.drop k).length (ints (ns.take k ++ [x] ++ ns.drop k)) := by rw [hlen, hi]; exact ho
  exact (own_owns ho' (by obtain ⟨_, _, _, e, _⟩ := own_form ho' (by rw [hlen]; omega); rw [e]; simp)).mono hB

set_option maxHeartbeats 4000000 in
theorem Put_any (w : World) (B : Nat) (v : Value) (ns : List Int) (x : Int) (h : Owns B w v ns) (hB : B ≤ w.heap.size) (hn : NCl ns) (hl : ns.length ≤ 16384) (hx : isF x = true) :
    Calls Try.prog 63 #[v, .int .i64 x] w (PutPost B v w ns x) := by
  obtain ⟨g, cap, rfl, ho⟩ := h
  obtain ⟨i0, hi0, hz0, hz1, hz2⟩ := info_parts int_info
  have hFx := isF_yes hx
  have HA : Hid (∀ w, Calls Try.prog 41 #[.int .i64 x] w fun e w' => e = .returned (.int .i64 (absI x)) ∧ w = w') := fun w => Abs_any x w hFx.2.1 hFx.2.2
  have HO := Lib.hid ho
  have HN := Lib.hid hn
  have HX := Lib.hid hx
  have HR : Hid (Reads w w.heap.size 1 (some ⟨g, 0, none⟩) ns.length (ints ns)) := by
    obtain ⟨A, c, e, hr⟩ := (own_ints ho).reads
    cases e; exact hr
  obtain ⟨hnc, hcm⟩ : ns.length ≤ cap ∧ cap ≤ 9223372036854775807 := by
    rcases own_blk ho with ⟨e, _⟩ | ⟨g', cap', e, _, h1, h2, _⟩
    · cases e
    · cases e; exact ⟨h1, by simpa [maxLen] using h2⟩
  generalize hlen : ns.length = n at *
  have HL := Lib.hid hlen
  generalize hax : absI x = ax at HA
  have HAX := Lib.hid hax
  clear ho hn hx hFx hlen hax
  go_enter Try.func63, Try.ntmps63
  go_wp2
  go_loop [6] (fun i => ∃ k : Nat, k ≤ n ∧ i = .int .i64 k ∧ Before ns x k) (fun i => n - (intOf i).toNat)
  case atStart => exact ⟨0, Nat.zero_le _, rfl, by intro j hj; omega⟩
  case round =>
    obtain ⟨k, hk, rfl, hbf⟩ := hrel
    have HBF := Lib.hid hbf
    clear hbf
    by_cases hlt : k < n
    · have hcell := own_cell (by rw [← HL.out] at HO; exact HO.out) k (by rw [HL.out]; exact hlt)
      have hFy := isF_yes (List.all_eq_true.1 HN.out.2 _ (getD_mem (k := k) (by rw [HL.out]; exact hlt)))
      generalize hye : ns.getD k 0 = y at hcell hFy
      have HY := Lib.hid hye
      have HA' : Hid (∀ w, Calls Try.prog 41 #[.int .i64 y] w fun e w' => e = .returned (.int .i64 (absI y)) ∧ w = w') := fun w => Abs_any y w hFy.2.1 hFy.2.2
      generalize hay : absI y = ay at HA'
      have HAY := Lib.hid hay
      clear hye hFy hay
      rcases Int.lt_trichotomy ay ax with hc | hc | hc
      · go_wp2_with (first
          | (go_at_call 41; with_reducible refine (HA.out _).mono ?_; rintro e w' ⟨rfl, rfl⟩)
          | (go_at_call 41; with_reducible refine (HA'.out _).mono ?_; rintro e w' ⟨rfl, rfl⟩))
        go_round
        case rel =>
          refine ⟨k + 1, by omega, by go_num, fun j hj => ?_⟩
          by_cases e : j = k
          · subst e; rw [HY.out, HAY.out, HAX.out]; exact hc
          · exact HBF.out j (by omega)
        case measure => simp [intOf]; omega
      · subst hc
        by_cases hxy : y = x
        · subst hxy
          have hq : (y == y) = true := by simp
          go_wp2_with (first
            | (go_at_call 41; with_reducible refine (HA.out _).mono ?_; rintro e w' ⟨rfl, rfl⟩))
          go_quiet (fail)
          go_wp2
          go_ret2
          exact put_there (below_drewN (Below.refl _ _) _) HN.out HL.out HO.out (by rw [← HY.out]; exact getD_mem (by rw [HL.out]; exact hlt)) rfl
        · have hq : (y == x) = false := by simpa using hxy
          have HXY := Lib.hid hxy
          clear hxy
          go_wp2_with (first
            | (go_at_call 41; with_reducible refine (HA.out _).mono ?_; rintro e w' ⟨rfl, rfl⟩)
            | (go_at_call 41; with_reducible refine (HA'.out _).mono ?_; rintro e w' ⟨rfl, rfl⟩))
          go_quiet (fail)
          go_wp2
          go_ret2
          refine ⟨below_drewN (Below.refl _ _) _, .inl ⟨?_, rfl⟩⟩
          have e2 : y = -x := (absI_eq (HAY.out.trans HAX.out.symm)).resolve_left HXY.out
          rw [← e2, ← HY.out]; exact getD_mem (by rw [HL.out]; exact hlt)
      · have HRC : Hid (Reads w w.heap.size 1 (some ⟨g, k, none⟩) (n - k) ((ints ns).drop (k * 1))) := by
          have hrc := HR.out.cut (k := k) (cap := cap) hk hnc
          rw [if_neg (by omega)] at hrc
          have e : (some (⟨g, 0, none⟩ : Addr)).map (·.add (k * 1)) = some ⟨g, k, none⟩ := by rw [Option.map_some, add_none]; simp
          rwa [e] at hrc
        have h1 : ¬ ay < ax := by omega
        have h2 : (ay == ax) = false := by simp; omega
        go_wp2_with (first
          | (go_at_call 41; with_reducible refine (HA.out _).mono ?_; rintro e w' ⟨rfl, rfl⟩)
          | (go_at_call 41; with_reducible refine (HA'.out _).mono ?_; rintro e w' ⟨rfl, rfl⟩)
          | (at_builtin; refine wpList_append_any _ rfl (.tmp 45) (.tmp 48) _ rfl w.heap.size 3 i0 _ 1 8 Try.underlying28 hi0 hz0 hz1 hz2 rfl (by omega) (.slice (some ⟨w.heap.size, 0, none⟩) 0 0) 0 [] rfl (World.ownsRow_made w #[] 0 (Nat.le_refl _) (by simp [maxLen]) rfl) w.heap.size (some ⟨g, 0, none⟩) k cap ((ints ns).take k) rfl ((reads_take HR.out hk).alloc (Nat.le_refl _) _) (fun u hu => ints_one ns u (List.mem_of_mem_take hu)) (by simp only [maxLen]; omega) (by omega) (by simp) ?_; intro v1 w1 hown1 hg1 hat1; have HO1 := Lib.hid hown1; have hb1 : Below w.heap.size w w1 := ((Below.refl _ _).alloc (Nat.le_refl _) _).grown hg1 (by simp) (by intro k hk; cases hk; exact Nat.le_refl _); clear hown1 hg1 hat1)
          | (at_builtin; refine wpList_append_any _ rfl (.tmp 50) (.tmp 52) _ rfl w.heap.size 3 i0 _ 1 8 Try.underlying28 hi0 hz0 hz1 hz2 rfl (by omega) v1 (0 + k) _ rfl (HO1.out.alloc _) (w1.heap.size + 1) (some ⟨w1.heap.size, 0, none⟩) 1 1 [.int .i64 x] rfl (reads_one _ _ _) (by simp [Value.oneCell']) (by simp only [maxLen]; omega) (by omega) (by have := hb1.size; simp; omega) ?_; intro v2 w2 hown2 hg2 hat2; have HO2 := Lib.hid hown2; have hb2 : Below w.heap.size w w2 := (hb1.alloc hb1.size _).grown hg2 (by have := hb1.size; simp; omega) (fun k hk => (HO1.out.lt k hk).1); clear hown2 hg2 hat2)
          | (at_builtin; refine wpList_append_any _ rfl (.tmp 54) (.tmp 57) _ rfl w.heap.size 3 i0 _ 1 8 Try.underlying28 hi0 hz0 hz1 hz2 rfl (by omega) v2 (0 + k + 1) _ rfl HO2.out w.heap.size (some ⟨g, k, none⟩) (n - k) (cap - k) ((ints ns).drop (k * 1)) rfl (HRC.out.below hb2) (fun u hu => ints_one ns u (List.mem_of_mem_drop hu)) (by simp only [maxLen]; omega) (by omega) hb2.size ?_; intro v3 w3 hown3 hg3 hat3; have HO3 := Lib.hid hown3; have hb3 : Below w.heap.size w w3 := hb2.grown hg3 hb2.size (fun k hk => (HO2.out.lt k hk).1); clear hown3 hg3 hat3))
        go_ret2
        exact put_new hb3 hB HN.out HL.out HX.out HAX.out HBF.out hk (fun _ => by rw [HY.out, HAY.out]; exact hc) HO3.out rfl
    · have e : k = n := by omega
      subst e
      go_wp2_with (first
          | (at_builtin; refine wpList_append_any _ rfl (.tmp 45) (.tmp 48) _ rfl w.heap.size 3 i0 _ 1 8 Try.underlying28 hi0 hz0 hz1 hz2 rfl (by omega) (.slice (some ⟨w.heap.size, 0, none⟩) 0 0) 0 [] rfl (World.ownsRow_made w #[] 0 (Nat.le_refl _) (by simp [maxLen]) rfl) w.heap.size (some ⟨g, 0, none⟩) k cap ((ints ns).take k) rfl ((reads_take HR.out hk).alloc (Nat.le_refl _) _) (fun u hu => ints_one ns u (List.mem_of_mem_take hu)) (by simp only [maxLen]; omega) (by omega) (by simp) ?_; intro v1 w1 hown1 hg1 hat1; have HO1 := Lib.hid hown1; have hb1 : Below w.heap.size w w1 := ((Below.refl _ _).alloc (Nat.le_refl _) _).grown hg1 (by simp) (by intro k hk; cases hk; exact Nat.le_refl _); clear hown1 hg1 hat1)
          | (at_builtin; refine wpList_append_any _ rfl (.tmp 50) (.tmp 52) _ rfl w.heap.size 3 i0 _ 1 8 Try.underlying28 hi0 hz0 hz1 hz2 rfl (by omega) v1 (0 + k) _ rfl (HO1.out.alloc _) (w1.heap.size + 1) (some ⟨w1.heap.size, 0, none⟩) 1 1 [.int .i64 x] rfl (reads_one _ _ _) (by simp [Value.oneCell']) (by simp only [maxLen]; omega) (by omega) (by have := hb1.size; simp; omega) ?_; intro v2 w2 hown2 hg2 hat2; have HO2 := Lib.hid hown2; have hb2 : Below w.heap.size w w2 := (hb1.alloc hb1.size _).grown hg2 (by have := hb1.size; simp; omega) (fun k hk => (HO1.out.lt k hk).1); clear hown2 hg2 hat2)
          | (at_builtin; refine wpList_append_any _ rfl (.tmp 54) (.tmp 57) _ rfl w.heap.size 3 i0 _ 1 8 Try.underlying28 hi0 hz0 hz1 hz2 rfl (by omega) v2 (0 + k + 1) _ rfl HO2.out w.heap.size _ 0 _ [] rfl Reads.none_ (by simp) (by simp only [maxLen]; omega) (by omega) hb2.size ?_; intro v3 w3 hown3 hg3 hat3; have HO3 := Lib.hid hown3; have hb3 : Below w.heap.size w w3 := hb2.grown hg3 hb2.size (fun k hk => (HO2.out.lt k hk).1); clear hown3 hg3 hat3))
      all_goals
        go_ret2
        have e1 : List.drop k (ints ns) = [] := List.drop_of_length_le (by simp [HL.out])
        exact put_new hb3 hB HN.out HL.out HX.out HAX.out HBF.out (Nat.le_refl _) (fun h => absurd h (by omega)) (by have := HO3.out; simpa [List.take_of_length_le, HL.out, e1] using this) rfl

theorem take_mem_succ {zs : List Int} {k : Nat} (hk : k < zs.length) (y : Int) : y ∈ zs.take (k + 1) ↔ y ∈ zs.take k ∨ y = zs.getD k 0 := by
  rw [List.take_succ_eq_append_getElem hk, List.mem_append, List.mem_singleton]
  simp [List.getD, hk]

/-- Where the place of a literal is. -/
theorem place_exists {ns : List Int} {x : Int} (hn : NCl ns) : ∃ k, k ≤ ns.length ∧ Before ns x k ∧ (k < ns.length → ¬ absI (ns.getD k 0) < absI x) := by
  have : ∀ n, n ≤ ns.length → (∃ k, k ≤ n ∧ Before ns x k ∧ (k < n → ¬ absI (ns.getD k 0) < absI x)) := by
    intro n
    induction n with
    | zero => intro _; exact ⟨0, Nat.le_refl _, by intro j hj; omega, by omega⟩
    | succ n ih =>
      intro hn'
      obtain ⟨k, hk, hb, hs⟩ := ih (by omega)
      by_cases hkn : k < n
      · exact ⟨k, by omega, hb, fun _ => hs hkn⟩
      · obtain rfl : k = n := by omega
        by_cases hlt : absI (ns.getD k 0) < absI x
        · exact ⟨k + 1, Nat.le_refl _, fun j hj => by
            by_cases e : j = k
            · subst e; exact hlt
            · exact hb j (by omega), by omega⟩
        · exact ⟨k, by omega, hb, fun _ => hlt⟩
  exact this ns.length (Nat.le_refl _)

theorem nf_exists {zs : List Int} (hE : wrongE zs = 0) (ht : taut zs = false) : ∃ ns, NF zs ns := by
  have hF := (wrongE_zero hE).2
  have : ∀ k, k ≤ zs.length → ∃ ns, NCl ns ∧ ∀ y, y ∈ ns ↔ y ∈ zs.take k := by
    intro k
    induction k with
    | zero => intro _; exact ⟨[], ⟨by simp, by simp⟩, by simp⟩
    | succ k ih =>
      intro hk
      obtain ⟨ns, hn, hm⟩ := ih (by omega)
      have hms := take_mem_succ (zs := zs) (k := k) hk
      have hxm : zs.getD k 0 ∈ zs := getD_mem hk
      generalize zs.getD k 0 = x at hms hxm
      by_cases hx : x ∈ ns
      · refine ⟨ns, hn, fun y => ?_⟩
        rw [hms, ← hm]
        constructor
        · exact .inl
        · rintro (h | h)
          · exact h
          · subst h; exact hx
      · obtain ⟨j, hj, hb, hs⟩ := place_exists (x := x) hn
        have hj' : j < ns.length → absI x < absI (ns.getD j 0) := by
          intro hjl
          have h1 := hs hjl
          have h2 : absI (ns.getD j 0) ≠ absI x := by
            intro e
            rcases absI_eq e with e | e
            · exact hx (by rw [← e]; exact getD_mem hjl)
            · have : -x ∈ zs := List.mem_of_mem_take ((hm _).1 (by rw [← e]; exact getD_mem hjl))
              exact taut_false.1 ht x hxm this
          omega
        obtain ⟨h1, h2⟩ := insert_ncl hn (List.all_eq_true.1 hF x hxm) hb hj'
        exact ⟨_, h1, fun y => by rw [h2, hm, hms]⟩
  obtain ⟨ns, hn, hm⟩ := this zs.length (Nat.le_refl _)
  rw [List.take_of_length_le (Nat.le_refl _)] at hm
  exact ⟨ns, hn.1, hm⟩

/-- The part that has been put together. -/
def Sofar (B : Nat) (w : World) (v : Value) (zs : List Int) (k : Nat) : Prop := ∃ ns, Owns B w v ns ∧ NCl ns ∧ ∀ y, y ∈ ns ↔ y ∈ zs.take k

set_option maxHeartbeats 2000000 in
theorem Form0_any (w : World) (v : Value) (zs : List Int) (h : Ints w v zs) (hl : zs.length ≤ 16384) (hF : zs.all isF = true) :
    Calls Try.prog 46 #[v] w (NormalPost w zs) := by
  obtain ⟨A, c, rfl, hr⟩ := h.reads
  have HF := Lib.hid hF
  have HR := Lib.hid hr
  generalize hlen : zs.length = n at *
  have HL := Lib.hid hlen
  clear h hF hr hlen
  have hown0 : Sofar w.heap.size (w.alloc (.cells #[] 3)) (.slice (some ⟨w.heap.size, 0, none⟩) 0 0) zs 0 :=
    ⟨[], ⟨w.heap.size, 0, rfl, World.ownsRow_made w #[] 0 (Nat.le_refl _) (by simp [maxLen]) rfl⟩, ⟨by simp, by simp⟩, by simp⟩
  have HS0 := Lib.hid hown0
  clear hown0
  go_enter Try.func46, Try.ntmps46
  go_wp2
  go_loopw [4, 5] (fun vo i wr => ∃ k : Nat, k ≤ n ∧ i = .int .i64 k ∧ Below w.heap.size w wr ∧ Sofar w.heap.size wr vo zs k) (fun _ i _ => n - (intOf i).toNat)
  case atStart => exact ⟨0, Nat.zero_le _, rfl, (Below.refl _ _).alloc (Nat.le_refl _) _, HS0.out⟩
  case round =>
    obtain ⟨k, hk, rfl, hbw, hso⟩ := hrel
    have HSO := Lib.hid hso
    clear hso
    by_cases hlt : k < n
    · obtain ⟨ns, hon, hnc, hmem⟩ := HSO.out
      obtain ⟨ad, u, rfl, _, hu, hcell⟩ := (HR.out.below hbw).at_ hlt
      have hkl : k < zs.length := by rw [HL.out]; exact hlt
      have hu' : u = .int .i64 (zs.getD k 0) := by
        simp [hkl] at hu
        simp [List.getD, hkl, ← hu]
      subst hu'
      have hFx : isF (zs.getD k 0) = true := List.all_eq_true.1 HF.out _ (getD_mem hkl)
      have hms := take_mem_succ hkl
      have hnl : ns.length ≤ 16384 := by
        have := rising_length hnc.1 (zs := zs.take k) (fun y hy => (hmem y).1 hy)
        rw [List.length_take] at this; omega
      have hxm : zs.getD k 0 ∈ zs := getD_mem hkl
      generalize zs.getD k 0 = x at hcell hFx hms hxm
      have hput := Put_any wr w.heap.size _ ns x hon hbw.size hnc hnl hFx
      have HMS := Lib.hid hms
      have HMEM := Lib.hid hmem
      have HXM := Lib.hid hxm
      clear hu hon hnc hmem hFx hms hnl hkl hxm
      by_cases hneg : -x ∈ ns
      · have hput' : Calls Try.prog 63 #[u4, .int .i64 x] wr fun e w' => e = .returned (.tuple #[u4, .bool false]) ∧ Below wr.heap.size wr w' := by
          refine hput.mono ?_
          rintro e w' ⟨hb, (⟨_, rfl⟩ | ⟨h', _⟩)⟩
          · exact ⟨rfl, hb⟩
          · exact absurd hneg h'
        have ht : taut zs = true := by
          refine taut_true.2 ⟨x, HXM.out, List.mem_of_mem_take ((HMEM.out _).1 hneg)⟩
        have HT := Lib.hid ht
        clear hput hneg ht
        go_wp2_with (go_at_call 63; refine hput'.mono ?_; rintro e w1 ⟨rfl, hb1⟩)
        go_ret2
        exact ⟨bt hbw (Nat.le_refl _) hb1, .inl ⟨HT.out, rfl⟩⟩
      · have hput' : Calls Try.prog 63 #[u4, .int .i64 x] wr fun e w' => ∃ v', e = .returned (.tuple #[v', .bool true]) ∧ Below wr.heap.size wr w' ∧ Sofar w.heap.size w' v' zs (k + 1) := by
          refine hput.mono ?_
          rintro e w' ⟨hb, (⟨h', _⟩ | ⟨_, v', ms, rfl, ho, hm, hmm⟩)⟩
          · exact absurd h' hneg
          · exact ⟨v', rfl, hb, ms, ho, hm, fun y => by rw [hmm, HMEM.out, HMS.out]⟩
        clear hput hneg
        go_wp2_with (go_at_call 63; refine hput'.mono ?_; rintro e w1 ⟨v1, rfl, hb1, hs1⟩; have HS1 := Lib.hid hs1; clear hs1)
        go_roundw
        case rel => exact ⟨k + 1, by omega, by go_num, bt hbw (Nat.le_refl _) hb1, HS1.out⟩
        case measure => simp [intOf]; omega
    · have e : k = n := by omega
      subst e
      go_wp2
      go_ret2
      obtain ⟨ns, ⟨g, cap, rfl, ho⟩, hnc, hmem⟩ := HSO.out
      rw [List.take_of_length_le (by rw [HL.out]; exact Nat.le_refl _)] at hmem
      have hnf : NF zs ns := ⟨hnc.1, hmem⟩
      exact ⟨hbw, .inr ⟨hnf.no_taut (fun x hx => (isF_yes (List.all_eq_true.1 HF.out x hx)).1), ns, g, cap, rfl, hnf, ho⟩⟩
end Go.Proofs.Ytcppmjgglcobcaa
