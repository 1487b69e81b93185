/- Whether two lists have the same members: the contracts of the statements' helpers and of slices.Equal at each type of member. -/
import Derived.Test.YtdodhbfplglbkaaCirc
import Derived.Laws.StructEq
namespace Go.Proofs.Ytdodhbfplglbkaa
open Go.RowKit

/-- Are two triples the same; two symbols; two texts? -/
def eqT (a b : Tri) : Bool := a.1 == b.1 && (a.2.1 == b.2.1 && a.2.2 == b.2.2)
def eqS (a b : Sym) : Bool := a.kind == b.kind && (a.at_ == b.at_ && a.name.toList == b.name.toList)
def eqI (a b : Int) : Bool := a == b
def eqB (a b : ByteArray) : Bool := a.toList == b.toList
theorem bytes_inj {a b : ByteArray} (h : a.toList = b.toList) : a = b := by
  rw [ByteArray.toList_eq, ByteArray.toList_eq] at h
  rcases a with ⟨⟨a⟩⟩; rcases b with ⟨⟨b⟩⟩
  simpa using h
theorem eqT_iff {a b : Tri} : eqT a b = true ↔ a = b := by
  obtain ⟨a0, a1, a2⟩ := a; obtain ⟨b0, b1, b2⟩ := b
  simp [eqT]
theorem eqS_iff {a b : Sym} : eqS a b = true ↔ a = b := by
  obtain ⟨a0, a1, a2⟩ := a; obtain ⟨b0, b1, b2⟩ := b
  simp only [eqS, Bool.and_eq_true, beq_iff_eq, Sym.mk.injEq]
  exact ⟨fun ⟨h1, h2, h3⟩ => ⟨h1, h2, bytes_inj h3⟩, fun ⟨h1, h2, h3⟩ => ⟨h1, h2, by rw [h3]⟩⟩
theorem eqI_iff {a b : Int} : eqI a b = true ↔ a = b := by simp [eqI]
theorem eqB_iff {a b : ByteArray} : eqB a b = true ↔ a = b := by
  simp only [eqB, beq_iff_eq]
  exact ⟨bytes_inj, fun h => by rw [h]⟩
theorem eqT_no {x0 x1 x2 y0 y1 y2 : Int} (h : eqT (x0, x1, x2) (y0, y1, y2) = false) : ¬ x0 = y0 ∨ (x0 = y0 ∧ ¬ x1 = y1) ∨ (x0 = y0 ∧ x1 = y1 ∧ ¬ x2 = y2) := by
  simp [eqT] at h; by_cases a : x0 = y0 <;> by_cases b : x1 = y1 <;> simp_all
theorem eqT_yes {x0 x1 x2 y0 y1 y2 : Int} (h : eqT (x0, x1, x2) (y0, y1, y2) = true) : x0 = y0 ∧ x1 = y1 ∧ x2 = y2 := by simpa [eqT] using h
theorem eqS_no {x0 x1 y0 y1 : Int} {x2 y2 : ByteArray} (h : eqS ⟨x0, x1, x2⟩ ⟨y0, y1, y2⟩ = false) : ¬ x0 = y0 ∨ (x0 = y0 ∧ ¬ x1 = y1) ∨ (x0 = y0 ∧ x1 = y1 ∧ ¬ x2.toList = y2.toList) := by
  simp [eqS] at h; by_cases a : x0 = y0 <;> by_cases b : x1 = y1 <;> simp_all
theorem eqS_yes {x0 x1 y0 y1 : Int} {x2 y2 : ByteArray} (h : eqS ⟨x0, x1, x2⟩ ⟨y0, y1, y2⟩ = true) : x0 = y0 ∧ x1 = y1 ∧ x2 = y2 := by
  have := eqS_iff.1 h; simpa using this

set_option maxHeartbeats 800000 in
theorem SameInts_any (w : World) (v u : Value) (xs ys : List Int) (h : RowE 1 encI w v xs) (h' : RowE 1 encI w u ys) : Calls Try.prog 56 #[v, u] w fun e w' => e = .returned (.bool (decide (xs = ys))) ∧ Below w.heap.size w w' := by
  have hlen := h.len
  have hlen' := h'.len
  unfold maxLen at hlen hlen'
  obtain ⟨A, c, rfl, hc, hm, hp⟩ := h
  obtain ⟨A', c', rfl, hc', hm', hq⟩ := h'
  generalize hr : decide (xs = ys) = r
  have HR := Lib.hid hr
  clear hr hc hm hc' hm'
  have HP := Lib.hid hp
  have HQ := Lib.hid hq
  clear hp hq
  by_cases hne : xs.length = ys.length
  · rw [← hne]
    have HM := Lib.hid hne
    clear hne hlen'
    generalize hn : xs.length = n at *
    have HN := Lib.hid hn
    clear hn
    go_enter Try.func56, Try.ntmps56
    go_wp2
    go_loopw [5] (fun i wr => ∃ k : Nat, k ≤ n ∧ i = .int .i64 k ∧ xs.take k = ys.take k ∧ Below w.heap.size w wr) (fun i _ => n - (intOf i).toNat)
    case atStart => exact ⟨0, Nat.zero_le _, rfl, by simp, Below.refl _ _⟩
    case round =>
      obtain ⟨k, hk, rfl, hall, hbw⟩ := hrel
      have HA := Lib.hid hall
      clear hall
      by_cases hlt : k < n
      · have hx := List.getElem?_eq_getElem (l := xs) (i := k) (by rw [HN.out]; exact hlt)
        have hy := List.getElem?_eq_getElem (l := ys) (i := k) (by rw [← HM.out]; exact hlt)
        generalize xs[k]'(by rw [HN.out]; exact hlt) = x at hx
        generalize ys[k]'(by rw [← HM.out]; exact hlt) = y at hy
        obtain ⟨b, off, rfl, hb, hcell⟩ := HP.out k x hx
        obtain ⟨b', off', rfl, hb', hcell'⟩ := HQ.out k y hy
        have HX := Lib.hid hx
        have HY := Lib.hid hy
        clear hx hy
        have h0 := (hbw.cell (p := ⟨b, off + (k * 1 + 0), none⟩) hb).trans (hcell 0 _ rfl)
        have g0 := (hbw.cell (p := ⟨b', off' + (k * 1 + 0), none⟩) hb').trans (hcell' 0 _ rfl)
        simp only [Nat.add_zero, Nat.mul_one] at h0 g0
        clear hcell hcell'
        cases he : eqI x y
        · have hr : r = false := by
            rw [← HR.out, decide_eq_false_iff_not]
            intro e
            subst e
            have e2 := HX.out.symm.trans HY.out
            rw [Option.some.injEq] at e2
            rw [eqI_iff.2 e2] at he
            cases he
          subst hr
          clear HX HY
          have hl1 : (x == y) = false := he
          have hl2 : (x != y) = true := by unfold bne; rw [hl1]; rfl
          clear he
          all_goals
            go_wp2
            go_quiet (fail)
            go_wp2
            go_ret
            exact ⟨rfl, below_drewN hbw _⟩
        · have HE := Lib.hid he
          have hl1 : (x == y) = true := he
          have hl2 : (x != y) = false := by unfold bne; rw [hl1]; rfl
          clear he
          go_wp2
          go_quiet (fail)
          go_wp2
          go_roundw
          case rel => exact ⟨k + 1, by omega, by go_num, take_eq_succ' HX.out (by rw [eqI_iff.1 HE.out]; exact HY.out) HA.out, below_drewN hbw _⟩
          case measure => simp [intOf]; omega
      · have : k = n := by omega
        subst this
        go_wp2
        go_ret
        refine ⟨ret_bool ?_, hbw⟩
        rw [← HR.out, eq_comm, decide_eq_true_iff]
        exact take_all HN.out (HM.out.symm) HA.out
  · have hr : r = false := by
      rw [← HR.out, decide_eq_false_iff_not]
      intro e; exact hne (by rw [e])
    subst hr
    have hd : ((xs.length : Int) == (ys.length : Int)) = false := by simpa using fun e => hne (by exact_mod_cast e)
    have hd2 : ((xs.length : Int) != (ys.length : Int)) = true := by simpa using fun e => hne (by exact_mod_cast e)
    have HR := Lib.hid hne
    clear hne
    go_enter Try.func56, Try.ntmps56
    go_wp2
    go_ret
    exact ⟨rfl, Below.refl _ _⟩

set_option maxHeartbeats 800000 in
theorem sameLatches_any (w : World) (v u : Value) (xs ys : List Tri) (h : RowE 3 encT w v xs) (h' : RowE 3 encT w u ys) : Calls Try.prog 106 #[v, u] w fun e w' => e = .returned (.bool (decide (xs = ys))) ∧ Below w.heap.size w w' := by
  have hlen := h.len
  have hlen' := h'.len
  unfold maxLen at hlen hlen'
  obtain ⟨A, c, rfl, hc, hm, hp⟩ := h
  obtain ⟨A', c', rfl, hc', hm', hq⟩ := h'
  generalize hr : decide (xs = ys) = r
  have HR := Lib.hid hr
  clear hr hc hm hc' hm'
  have HP := Lib.hid hp
  have HQ := Lib.hid hq
  clear hp hq
  by_cases hne : xs.length = ys.length
  · rw [← hne]
    have HM := Lib.hid hne
    clear hne hlen'
    generalize hn : xs.length = n at *
    have HN := Lib.hid hn
    clear hn
    go_enter Try.func106, Try.ntmps106
    go_wp2
    go_loopw [5] (fun i wr => ∃ k : Nat, k ≤ n ∧ i = .int .i64 k ∧ xs.take k = ys.take k ∧ Below w.heap.size w wr) (fun i _ => n - (intOf i).toNat)
    case atStart => exact ⟨0, Nat.zero_le _, rfl, by simp, Below.refl _ _⟩
    case round =>
      obtain ⟨k, hk, rfl, hall, hbw⟩ := hrel
      have HA := Lib.hid hall
      clear hall
      by_cases hlt : k < n
      · have hx := List.getElem?_eq_getElem (l := xs) (i := k) (by rw [HN.out]; exact hlt)
        have hy := List.getElem?_eq_getElem (l := ys) (i := k) (by rw [← HM.out]; exact hlt)
        generalize xs[k]'(by rw [HN.out]; exact hlt) = x at hx
        generalize ys[k]'(by rw [← HM.out]; exact hlt) = y at hy
        obtain ⟨b, off, rfl, hb, hcell⟩ := HP.out k x hx
        obtain ⟨b', off', rfl, hb', hcell'⟩ := HQ.out k y hy
        have HX := Lib.hid hx
        have HY := Lib.hid hy
        clear hx hy
        obtain ⟨x0, x1, x2⟩ := x
        obtain ⟨y0, y1, y2⟩ := y
        have h0 := (hbw.cell (p := ⟨b, off + (k * 3 + 0), none⟩) hb).trans (hcell 0 _ rfl)
        have g0 := (hbw.cell (p := ⟨b', off' + (k * 3 + 0), none⟩) hb').trans (hcell' 0 _ rfl)
        have h1 := (hbw.cell (p := ⟨b, off + (k * 3 + 1), none⟩) hb).trans (hcell 1 _ rfl)
        have g1 := (hbw.cell (p := ⟨b', off' + (k * 3 + 1), none⟩) hb').trans (hcell' 1 _ rfl)
        have h2 := (hbw.cell (p := ⟨b, off + (k * 3 + 2), none⟩) hb).trans (hcell 2 _ rfl)
        have g2 := (hbw.cell (p := ⟨b', off' + (k * 3 + 2), none⟩) hb').trans (hcell' 2 _ rfl)
        simp only [Nat.add_zero, ← Nat.add_assoc] at h0 g0 h1 g1 h2 g2
        clear hcell hcell'
        cases he : eqT (x0, x1, x2) (y0, y1, y2)
        · have hr : r = false := by
            rw [← HR.out, decide_eq_false_iff_not]
            intro e
            subst e
            have e2 := HX.out.symm.trans HY.out
            rw [Option.some.injEq] at e2
            rw [eqT_iff.2 e2] at he
            cases he
          subst hr
          clear HX HY
          rcases eqT_no he with hl1 | ⟨rfl, hl1⟩ | ⟨rfl, rfl, hl1⟩
          clear he
          all_goals
            go_wp2
            go_quiet (fail)
            go_wp2
            go_ret
            exact ⟨rfl, below_drewN hbw _⟩
        · have HE := Lib.hid he
          obtain ⟨rfl, rfl, rfl⟩ := eqT_yes he
          clear he
          go_wp2
          go_quiet (fail)
          go_wp2
          go_roundw
          case rel => exact ⟨k + 1, by omega, by go_num, take_eq_succ' HX.out (by rw [eqT_iff.1 HE.out]; exact HY.out) HA.out, below_drewN hbw _⟩
          case measure => simp [intOf]; omega
      · have : k = n := by omega
        subst this
        go_wp2
        go_ret
        refine ⟨ret_bool ?_, hbw⟩
        rw [← HR.out, eq_comm, decide_eq_true_iff]
        exact take_all HN.out (HM.out.symm) HA.out
  · have hr : r = false := by
      rw [← HR.out, decide_eq_false_iff_not]
      intro e; exact hne (by rw [e])
    subst hr
    have hd : ((xs.length : Int) == (ys.length : Int)) = false := by simpa using fun e => hne (by exact_mod_cast e)
    have hd2 : ((xs.length : Int) != (ys.length : Int)) = true := by simpa using fun e => hne (by exact_mod_cast e)
    have HR := Lib.hid hne
    clear hne
    go_enter Try.func106, Try.ntmps106
    go_wp2
    go_ret
    exact ⟨rfl, Below.refl _ _⟩

set_option maxHeartbeats 800000 in
theorem sameAnds_any (w : World) (v u : Value) (xs ys : List Tri) (h : RowE 3 encT w v xs) (h' : RowE 3 encT w u ys) : Calls Try.prog 108 #[v, u] w fun e w' => e = .returned (.bool (decide (xs = ys))) ∧ Below w.heap.size w w' := by
  have hlen := h.len
  have hlen' := h'.len
  unfold maxLen at hlen hlen'
  obtain ⟨A, c, rfl, hc, hm, hp⟩ := h
  obtain ⟨A', c', rfl, hc', hm', hq⟩ := h'
  generalize hr : decide (xs = ys) = r
  have HR := Lib.hid hr
  clear hr hc hm hc' hm'
  have HP := Lib.hid hp
  have HQ := Lib.hid hq
  clear hp hq
  by_cases hne : xs.length = ys.length
  · rw [← hne]
    have HM := Lib.hid hne
    clear hne hlen'
    generalize hn : xs.length = n at *
    have HN := Lib.hid hn
    clear hn
    go_enter Try.func108, Try.ntmps108
    go_wp2
    go_loopw [5] (fun i wr => ∃ k : Nat, k ≤ n ∧ i = .int .i64 k ∧ xs.take k = ys.take k ∧ Below w.heap.size w wr) (fun i _ => n - (intOf i).toNat)
    case atStart => exact ⟨0, Nat.zero_le _, rfl, by simp, Below.refl _ _⟩
    case round =>
      obtain ⟨k, hk, rfl, hall, hbw⟩ := hrel
      have HA := Lib.hid hall
      clear hall
      by_cases hlt : k < n
      · have hx := List.getElem?_eq_getElem (l := xs) (i := k) (by rw [HN.out]; exact hlt)
        have hy := List.getElem?_eq_getElem (l := ys) (i := k) (by rw [← HM.out]; exact hlt)
        generalize xs[k]'(by rw [HN.out]; exact hlt) = x at hx
        generalize ys[k]'(by rw [← HM.out]; exact hlt) = y at hy
        obtain ⟨b, off, rfl, hb, hcell⟩ := HP.out k x hx
        obtain ⟨b', off', rfl, hb', hcell'⟩ := HQ.out k y hy
        have HX := Lib.hid hx
        have HY := Lib.hid hy
        clear hx hy
        obtain ⟨x0, x1, x2⟩ := x
        obtain ⟨y0, y1, y2⟩ := y
        have h0 := (hbw.cell (p := ⟨b, off + (k * 3 + 0), none⟩) hb).trans (hcell 0 _ rfl)
        have g0 := (hbw.cell (p := ⟨b', off' + (k * 3 + 0), none⟩) hb').trans (hcell' 0 _ rfl)
        have h1 := (hbw.cell (p := ⟨b, off + (k * 3 + 1), none⟩) hb).trans (hcell 1 _ rfl)
        have g1 := (hbw.cell (p := ⟨b', off' + (k * 3 + 1), none⟩) hb').trans (hcell' 1 _ rfl)
        have h2 := (hbw.cell (p := ⟨b, off + (k * 3 + 2), none⟩) hb).trans (hcell 2 _ rfl)
        have g2 := (hbw.cell (p := ⟨b', off' + (k * 3 + 2), none⟩) hb').trans (hcell' 2 _ rfl)
        simp only [Nat.add_zero, ← Nat.add_assoc] at h0 g0 h1 g1 h2 g2
        clear hcell hcell'
        cases he : eqT (x0, x1, x2) (y0, y1, y2)
        · have hr : r = false := by
            rw [← HR.out, decide_eq_false_iff_not]
            intro e
            subst e
            have e2 := HX.out.symm.trans HY.out
            rw [Option.some.injEq] at e2
            rw [eqT_iff.2 e2] at he
            cases he
          subst hr
          clear HX HY
          rcases eqT_no he with hl1 | ⟨rfl, hl1⟩ | ⟨rfl, rfl, hl1⟩
          clear he
          all_goals
            go_wp2
            go_quiet (fail)
            go_wp2
            go_ret
            exact ⟨rfl, below_drewN hbw _⟩
        · have HE := Lib.hid he
          obtain ⟨rfl, rfl, rfl⟩ := eqT_yes he
          clear he
          go_wp2
          go_quiet (fail)
          go_wp2
          go_roundw
          case rel => exact ⟨k + 1, by omega, by go_num, take_eq_succ' HX.out (by rw [eqT_iff.1 HE.out]; exact HY.out) HA.out, below_drewN hbw _⟩
          case measure => simp [intOf]; omega
      · have : k = n := by omega
        subst this
        go_wp2
        go_ret
        refine ⟨ret_bool ?_, hbw⟩
        rw [← HR.out, eq_comm, decide_eq_true_iff]
        exact take_all HN.out (HM.out.symm) HA.out
  · have hr : r = false := by
      rw [← HR.out, decide_eq_false_iff_not]
      intro e; exact hne (by rw [e])
    subst hr
    have hd : ((xs.length : Int) == (ys.length : Int)) = false := by simpa using fun e => hne (by exact_mod_cast e)
    have hd2 : ((xs.length : Int) != (ys.length : Int)) = true := by simpa using fun e => hne (by exact_mod_cast e)
    have HR := Lib.hid hne
    clear hne
    go_enter Try.func108, Try.ntmps108
    go_wp2
    go_ret
    exact ⟨rfl, Below.refl _ _⟩

set_option maxHeartbeats 800000 in
theorem sameSymbols_any (w : World) (v u : Value) (xs ys : List Sym) (h : RowE 3 encS w v xs) (h' : RowE 3 encS w u ys) : Calls Try.prog 109 #[v, u] w fun e w' => e = .returned (.bool (decide (xs = ys))) ∧ Below w.heap.size w w' := by
  have hlen := h.len
  have hlen' := h'.len
  unfold maxLen at hlen hlen'
  obtain ⟨A, c, rfl, hc, hm, hp⟩ := h
  obtain ⟨A', c', rfl, hc', hm', hq⟩ := h'
  generalize hr : decide (xs = ys) = r
  have HR := Lib.hid hr
  clear hr hc hm hc' hm'
  have HP := Lib.hid hp
  have HQ := Lib.hid hq
  clear hp hq
  by_cases hne : xs.length = ys.length
  · rw [← hne]
    have HM := Lib.hid hne
    clear hne hlen'
    generalize hn : xs.length = n at *
    have HN := Lib.hid hn
    clear hn
    go_enter Try.func109, Try.ntmps109
    go_wp2
    go_loopw [5] (fun i wr => ∃ k : Nat, k ≤ n ∧ i = .int .i64 k ∧ xs.take k = ys.take k ∧ Below w.heap.size w wr) (fun i _ => n - (intOf i).toNat)
    case atStart => exact ⟨0, Nat.zero_le _, rfl, by simp, Below.refl _ _⟩
    case round =>
      obtain ⟨k, hk, rfl, hall, hbw⟩ := hrel
      have HA := Lib.hid hall
      clear hall
      by_cases hlt : k < n
      · have hx := List.getElem?_eq_getElem (l := xs) (i := k) (by rw [HN.out]; exact hlt)
        have hy := List.getElem?_eq_getElem (l := ys) (i := k) (by rw [← HM.out]; exact hlt)
        generalize xs[k]'(by rw [HN.out]; exact hlt) = x at hx
        generalize ys[k]'(by rw [← HM.out]; exact hlt) = y at hy
        obtain ⟨b, off, rfl, hb, hcell⟩ := HP.out k x hx
        obtain ⟨b', off', rfl, hb', hcell'⟩ := HQ.out k y hy
        have HX := Lib.hid hx
        have HY := Lib.hid hy
        clear hx hy
        obtain ⟨x0, x1, x2⟩ := x
        obtain ⟨y0, y1, y2⟩ := y
        have h0 := (hbw.cell (p := ⟨b, off + (k * 3 + 0), none⟩) hb).trans (hcell 0 _ rfl)
        have g0 := (hbw.cell (p := ⟨b', off' + (k * 3 + 0), none⟩) hb').trans (hcell' 0 _ rfl)
        have h1 := (hbw.cell (p := ⟨b, off + (k * 3 + 1), none⟩) hb).trans (hcell 1 _ rfl)
        have g1 := (hbw.cell (p := ⟨b', off' + (k * 3 + 1), none⟩) hb').trans (hcell' 1 _ rfl)
        have h2 := (hbw.cell (p := ⟨b, off + (k * 3 + 2), none⟩) hb).trans (hcell 2 _ rfl)
        have g2 := (hbw.cell (p := ⟨b', off' + (k * 3 + 2), none⟩) hb').trans (hcell' 2 _ rfl)
        simp only [Nat.add_zero, ← Nat.add_assoc] at h0 g0 h1 g1 h2 g2
        clear hcell hcell'
        cases he : eqS ⟨x0, x1, x2⟩ ⟨y0, y1, y2⟩
        · have hr : r = false := by
            rw [← HR.out, decide_eq_false_iff_not]
            intro e
            subst e
            have e2 := HX.out.symm.trans HY.out
            rw [Option.some.injEq] at e2
            rw [eqS_iff.2 e2] at he
            cases he
          subst hr
          clear HX HY
          rcases eqS_no he with hl1 | ⟨rfl, hl1⟩ | ⟨rfl, rfl, hl1⟩
          clear he
          all_goals
            go_wp2
            go_quiet (fail)
            go_wp2
            go_ret
            exact ⟨rfl, below_drewN hbw _⟩
        · have HE := Lib.hid he
          obtain ⟨rfl, rfl, rfl⟩ := eqS_yes he
          clear he
          go_wp2
          go_quiet (fail)
          go_wp2
          go_roundw
          case rel => exact ⟨k + 1, by omega, by go_num, take_eq_succ' HX.out (by rw [eqS_iff.1 HE.out]; exact HY.out) HA.out, below_drewN hbw _⟩
          case measure => simp [intOf]; omega
      · have : k = n := by omega
        subst this
        go_wp2
        go_ret
        refine ⟨ret_bool ?_, hbw⟩
        rw [← HR.out, eq_comm, decide_eq_true_iff]
        exact take_all HN.out (HM.out.symm) HA.out
  · have hr : r = false := by
      rw [← HR.out, decide_eq_false_iff_not]
      intro e; exact hne (by rw [e])
    subst hr
    have hd : ((xs.length : Int) == (ys.length : Int)) = false := by simpa using fun e => hne (by exact_mod_cast e)
    have hd2 : ((xs.length : Int) != (ys.length : Int)) = true := by simpa using fun e => hne (by exact_mod_cast e)
    have HR := Lib.hid hne
    clear hne
    go_enter Try.func109, Try.ntmps109
    go_wp2
    go_ret
    exact ⟨rfl, Below.refl _ _⟩

set_option maxHeartbeats 800000 in
theorem SameTexts_any (w : World) (v u : Value) (xs ys : List ByteArray) (h : RowE 1 encB w v xs) (h' : RowE 1 encB w u ys) : Calls Try.prog 110 #[v, u] w fun e w' => e = .returned (.bool (decide (xs = ys))) ∧ Below w.heap.size w w' := by
  have hlen := h.len
  have hlen' := h'.len
  unfold maxLen at hlen hlen'
  obtain ⟨A, c, rfl, hc, hm, hp⟩ := h
  obtain ⟨A', c', rfl, hc', hm', hq⟩ := h'
  generalize hr : decide (xs = ys) = r
  have HR := Lib.hid hr
  clear hr hc hm hc' hm'
  have HP := Lib.hid hp
  have HQ := Lib.hid hq
  clear hp hq
  by_cases hne : xs.length = ys.length
  · rw [← hne]
    have HM := Lib.hid hne
    clear hne hlen'
    generalize hn : xs.length = n at *
    have HN := Lib.hid hn
    clear hn
    go_enter Try.func110, Try.ntmps110
    go_wp2
    go_loopw [5] (fun i wr => ∃ k : Nat, k ≤ n ∧ i = .int .i64 k ∧ xs.take k = ys.take k ∧ Below w.heap.size w wr) (fun i _ => n - (intOf i).toNat)
    case atStart => exact ⟨0, Nat.zero_le _, rfl, by simp, Below.refl _ _⟩
    case round =>
      obtain ⟨k, hk, rfl, hall, hbw⟩ := hrel
      have HA := Lib.hid hall
      clear hall
      by_cases hlt : k < n
      · have hx := List.getElem?_eq_getElem (l := xs) (i := k) (by rw [HN.out]; exact hlt)
        have hy := List.getElem?_eq_getElem (l := ys) (i := k) (by rw [← HM.out]; exact hlt)
        generalize xs[k]'(by rw [HN.out]; exact hlt) = x at hx
        generalize ys[k]'(by rw [← HM.out]; exact hlt) = y at hy
        obtain ⟨b, off, rfl, hb, hcell⟩ := HP.out k x hx
        obtain ⟨b', off', rfl, hb', hcell'⟩ := HQ.out k y hy
        have HX := Lib.hid hx
        have HY := Lib.hid hy
        clear hx hy
        have h0 := (hbw.cell (p := ⟨b, off + (k * 1 + 0), none⟩) hb).trans (hcell 0 _ rfl)
        have g0 := (hbw.cell (p := ⟨b', off' + (k * 1 + 0), none⟩) hb').trans (hcell' 0 _ rfl)
        simp only [Nat.add_zero, Nat.mul_one] at h0 g0
        clear hcell hcell'
        cases he : eqB x y
        · have hr : r = false := by
            rw [← HR.out, decide_eq_false_iff_not]
            intro e
            subst e
            have e2 := HX.out.symm.trans HY.out
            rw [Option.some.injEq] at e2
            rw [eqB_iff.2 e2] at he
            cases he
          subst hr
          clear HX HY
          have hl1 : (x.toList == y.toList) = false := he
          have hl2 : (x.toList != y.toList) = true := by unfold bne; rw [hl1]; rfl
          clear he
          all_goals
            go_wp2
            go_quiet (fail)
            go_wp2
            go_ret
            exact ⟨rfl, below_drewN hbw _⟩
        · have HE := Lib.hid he
          have hl1 : (x.toList == y.toList) = true := he
          have hl2 : (x.toList != y.toList) = false := by unfold bne; rw [hl1]; rfl
          clear he
          go_wp2
          go_quiet (fail)
          go_wp2
          go_roundw
          case rel => exact ⟨k + 1, by omega, by go_num, take_eq_succ' HX.out (by rw [eqB_iff.1 HE.out]; exact HY.out) HA.out, below_drewN hbw _⟩
          case measure => simp [intOf]; omega
      · have : k = n := by omega
        subst this
        go_wp2
        go_ret
        refine ⟨ret_bool ?_, hbw⟩
        rw [← HR.out, eq_comm, decide_eq_true_iff]
        exact take_all HN.out (HM.out.symm) HA.out
  · have hr : r = false := by
      rw [← HR.out, decide_eq_false_iff_not]
      intro e; exact hne (by rw [e])
    subst hr
    have hd : ((xs.length : Int) == (ys.length : Int)) = false := by simpa using fun e => hne (by exact_mod_cast e)
    have hd2 : ((xs.length : Int) != (ys.length : Int)) = true := by simpa using fun e => hne (by exact_mod_cast e)
    have HR := Lib.hid hne
    clear hne
    go_enter Try.func110, Try.ntmps110
    go_wp2
    go_ret
    exact ⟨rfl, Below.refl _ _⟩

end Go.Proofs.Ytdodhbfplglbkaa
