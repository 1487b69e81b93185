/- Cone: the contracts of literals: of, all, newLiterals. -/
import Derived.Test.YtagffmalmkcboaaConC
import Derived.Test.YtagffmalmkcboaaSimK
import Derived.Test.YtagffmalmkcboaaRep
namespace Go.Proofs.Ytagffmalmkcboaa
open Go.RowKit Go.Maps

def numsF (s : List Bool) : List Int → Nat → List Int
  | [], _ => []
  | d :: r, k => if s.getD (vOf d) false = true then (k : Int) :: numsF s r (k + 1) else numsF s r (k + 1)
theorem numsF_snoc (s : List Bool) (x : Int) : ∀ (ds : List Int) (k : Nat), numsF s (ds ++ [x]) k = numsF s ds k ++ (if s.getD (vOf x) false = true then [((k + ds.length : Nat) : Int)] else [])
  | [], k => by
    show (if s.getD (vOf x) false = true then (k : Int) :: numsF s [] (k + 1) else numsF s [] (k + 1)) = _
    split <;> simp [numsF]
  | d :: r, k => by
    have h := numsF_snoc s x r (k + 1)
    show (if s.getD (vOf d) false = true then (k : Int) :: numsF s (r ++ [x]) (k + 1) else numsF s (r ++ [x]) (k + 1)) = (if s.getD (vOf d) false = true then (k : Int) :: numsF s r (k + 1) else numsF s r (k + 1)) ++ _
    rw [h, show k + 1 + r.length = k + (d :: r).length by simp; omega]
    split <;> rfl
set_option maxHeartbeats 4000000 in
set_option maxRecDepth 100000 in
theorem numbersI_any (w : World) (g n bx : Nat) (s : List Bool) (ds : List Int) (ht : Tab w g s) (hsn : s.length = n) (hds : ∀ d ∈ ds, 0 ≤ d ∧ vOf d < n) (hn1 : n ≤ 20000) (hn16 : ds.length ≤ 16384)
    (hf : ∀ (wx : World) (i : Nat) (d : Int), Below w.heap.size w wx → ds[i]? = some d → Calls Try.prog 80 #[.int .i64 i, .pointer (some ⟨bx, 0, none⟩)] wx fun e w' => e = .returned (.int .i64 d) ∧ w' = wx) :
    Calls Try.prog 79 #[.slice (some ⟨g, 0, none⟩) n n, .int .i64 ds.length, .func (.func 80) #[] #[.pointer (some ⟨bx, 0, none⟩)]] w fun e w' => ∃ v, e = .returned v ∧ w'.ownsRow w.heap.size 3 1 v (numsF s ds 0).length ((numsF s ds 0).map (Value.int .i64)) ∧ Below w.heap.size w w' := by
  have HF := Lib.hid hf
  have HT := Lib.hid ht
  have HDS := Lib.hid hds
  have hgl := Blk.lt ht
  have HSN := Lib.hid hsn
  have HB0 := Lib.hid (Below.refl w.heap.size w)
  clear hf ht hds hsn
  generalize hk : ds.length = nd at *
  have HN := Lib.hid hk
  clear hk
  go_enter Try.func79, Try.ntmps79
  go_wp2
  go_loopg [7, 10] nd (fun j ov iv wr => ∃ k r : Nat, k ≤ nd ∧ iv = .int .i64 k ∧ j = nd - k ∧ (numsF s (ds.take k) 0).length = r ∧ r ≤ k ∧ wr.ownsRow w.heap.size 3 1 ov r ((numsF s (ds.take k) 0).map (Value.int .i64)) ∧ Below w.heap.size w wr)
  case atStart => exact ⟨0, 0, Nat.zero_le _, rfl, rfl, rfl, Nat.le_refl _, ⟨rfl, .inl ⟨rfl, rfl⟩⟩, HB0.out⟩
  case round =>
    obtain ⟨k, r, hk, rfl, hgk, hrl, hrk, hown, hbl⟩ := hrel
    subst hgk
    have HO := Lib.hid hown
    have HB := Lib.hid hbl
    have HRL := Lib.hid hrl
    clear hown hbl HB0 hrl
    obtain ⟨Ao, co, hov⟩ := own_slice1 HO.out
    subst hov
    by_cases hlt : k < nd
    · have hx := List.getElem?_eq_getElem (l := ds) (i := k) (by rw [HN.out]; exact hlt)
      generalize ds[k]'(by rw [HN.out]; exact hlt) = x at hx
      have hxz := HDS.out x (List.mem_of_getElem? hx)
      have HC := Lib.hid (HF.out wr k x HB.out hx)
      have hv : vOf x = (x / 2).toNat := rfl
      obtain ⟨b, hbx⟩ : ∃ b, s[(x / 2).toNat]? = some b := ⟨_, List.getElem?_eq_getElem (by rw [HSN.out]; omega)⟩
      have hgb : s.getD (vOf x) false = b := by rw [List.getD_eq_getElem?_getD, hv, hbx]; rfl
      have hcell := (HB.out.cell (p := ⟨g, (x / 2).toNat, none⟩) hgl).trans (HT.out.cell hbx)
      have HST : Hid (numsF s (ds.take (k + 1)) 0 = numsF s (ds.take k) 0 ++ (if b = true then [(k : Int)] else [])) := Lib.hid (by rw [take_more hx, numsF_snoc, hgb, List.length_take, HN.out, Nat.zero_add, Nat.min_eq_left hk])
      have hq := tdiv_nn (b := 2) hxz.1
      have hq0 : 0 ≤ x / 2 := by omega
      have hq1 : x / 2 < (n : Int) := by omega
      have hq3 : IntKind.i64.wrap (x / 2) = x / 2 := i64_small (by omega) (by omega)
      have hk0 : (0 : Int) ≤ (k : Int) := by omega
      have hk1 : (k : Int) < (nd : Int) := by omega
      clear hx hxz hbx hgb hv
      cases b
      · have HTK : Hid (numsF s (ds.take (k + 1)) 0 = numsF s (ds.take k) 0) := Lib.hid (by rw [HST.out]; simp)
        clear HST
        go_wp2_with (go_at_call 80; refine HC.out.mono ?_; rintro e w1 ⟨rfl, rfl⟩)
        go_roundg (nd - (k + 1))
        case measure => omega
        case rel => exact ⟨k + 1, r, by omega, by go_num, rfl, by rw [HTK.out]; exact HRL.out, by omega, by rw [HTK.out]; exact HO.out, HB.out⟩
      · have HTK : Hid (numsF s (ds.take (k + 1)) 0 = numsF s (ds.take k) 0 ++ [(k : Int)]) := Lib.hid (by rw [HST.out]; simp)
        obtain ⟨i0', hi0, hz0, hz1, hz2⟩ := info_of2 infoIS
        have HI0 := Lib.hid (And.intro hi0 (And.intro hz0 (And.intro hz1 hz2)))
        have HR := Lib.hid (reads_oneS wr (.int .i64 (k : Int)) 3)
        have hsz := HB.out.size
        clear HST hi0 hz0 hz1 hz2
        go_wp2_with (first
          | (go_at_call 80; refine HC.out.mono ?_; rintro e w1 ⟨rfl, rfl⟩)
          | (at_builtin; refine wpList_append_any _ rfl (.tmp 20) (.tmp 22) _ rfl w.heap.size 3 i0' _ 1 8 Try.underlying22 HI0.out.1 HI0.out.2.1 HI0.out.2.2.1 HI0.out.2.2.2 rfl (by omega) (.slice Ao r co) r ((numsF s (ds.take k) 0).map (Value.int .i64)) rfl (HO.out.alloc _) (w1.heap.size + 1) (some ⟨w1.heap.size, 0, none⟩) 1 1 [.int .i64 (k : Int)] rfl HR.out (by simp [Value.oneCell']) (by simp only [maxLen]; omega) (by omega) (by simp; omega) ?_; intro v3 w3 hown3 hg3 hat3; have HB3 := Lib.hid ((HB.out.alloc hsz (.cells #[.int .i64 (k : Int)] 3)).grown hg3 (by simp; omega) (fun g hg => (HO.out.lt g hg).1)); have HO3 := Lib.hid hown3; clear hown3 hg3 hat3))
        go_roundg (nd - (k + 1))
        case measure => omega
        case rel => exact ⟨k + 1, r + 1, by omega, by go_num, rfl, by rw [HTK.out]; simp [HRL.out], by omega, by rw [HTK.out]; simpa using HO3.out, HB3.out⟩
    · have hke : k = nd := by omega
      subst hke
      go_wp2
      go_ret
      have := HO.out
      have h2 := HRL.out
      rw [List.take_of_length_le (by rw [HN.out]; exact Nat.le_refl _)] at this h2
      rw [h2]
      exact ⟨_, rfl, this, HB.out⟩

set_option maxHeartbeats 4000000 in
set_option maxRecDepth 100000 in
theorem numbersL_any (w : World) (g n bx : Nat) (s : List Bool) (ds : List Int) (ht : Tab w g s) (hsn : s.length = n) (hds : ∀ d ∈ ds, 0 ≤ d ∧ vOf d < n) (hn1 : n ≤ 20000) (hn16 : ds.length ≤ 16384)
    (hf : ∀ (wx : World) (i : Nat) (d : Int), Below w.heap.size w wx → ds[i]? = some d → Calls Try.prog 81 #[.int .i64 i, .pointer (some ⟨bx, 0, none⟩)] wx fun e w' => e = .returned (.int .i64 d) ∧ w' = wx) :
    Calls Try.prog 79 #[.slice (some ⟨g, 0, none⟩) n n, .int .i64 ds.length, .func (.func 81) #[] #[.pointer (some ⟨bx, 0, none⟩)]] w fun e w' => ∃ v, e = .returned v ∧ w'.ownsRow w.heap.size 3 1 v (numsF s ds 0).length ((numsF s ds 0).map (Value.int .i64)) ∧ Below w.heap.size w w' := by
  have HF := Lib.hid hf
  have HT := Lib.hid ht
  have HDS := Lib.hid hds
  have hgl := Blk.lt ht
  have HSN := Lib.hid hsn
  have HB0 := Lib.hid (Below.refl w.heap.size w)
  clear hf ht hds hsn
  generalize hk : ds.length = nd at *
  have HN := Lib.hid hk
  clear hk
  go_enter Try.func79, Try.ntmps79
  go_wp2
  go_loopg [7, 10] nd (fun j ov iv wr => ∃ k r : Nat, k ≤ nd ∧ iv = .int .i64 k ∧ j = nd - k ∧ (numsF s (ds.take k) 0).length = r ∧ r ≤ k ∧ wr.ownsRow w.heap.size 3 1 ov r ((numsF s (ds.take k) 0).map (Value.int .i64)) ∧ Below w.heap.size w wr)
  case atStart => exact ⟨0, 0, Nat.zero_le _, rfl, rfl, rfl, Nat.le_refl _, ⟨rfl, .inl ⟨rfl, rfl⟩⟩, HB0.out⟩
  case round =>
    obtain ⟨k, r, hk, rfl, hgk, hrl, hrk, hown, hbl⟩ := hrel
    subst hgk
    have HO := Lib.hid hown
    have HB := Lib.hid hbl
    have HRL := Lib.hid hrl
    clear hown hbl HB0 hrl
    obtain ⟨Ao, co, hov⟩ := own_slice1 HO.out
    subst hov
    by_cases hlt : k < nd
    · have hx := List.getElem?_eq_getElem (l := ds) (i := k) (by rw [HN.out]; exact hlt)
      generalize ds[k]'(by rw [HN.out]; exact hlt) = x at hx
      have hxz := HDS.out x (List.mem_of_getElem? hx)
      have HC := Lib.hid (HF.out wr k x HB.out hx)
      have hv : vOf x = (x / 2).toNat := rfl
      obtain ⟨b, hbx⟩ : ∃ b, s[(x / 2).toNat]? = some b := ⟨_, List.getElem?_eq_getElem (by rw [HSN.out]; omega)⟩
      have hgb : s.getD (vOf x) false = b := by rw [List.getD_eq_getElem?_getD, hv, hbx]; rfl
      have hcell := (HB.out.cell (p := ⟨g, (x / 2).toNat, none⟩) hgl).trans (HT.out.cell hbx)
      have HST : Hid (numsF s (ds.take (k + 1)) 0 = numsF s (ds.take k) 0 ++ (if b = true then [(k : Int)] else [])) := Lib.hid (by rw [take_more hx, numsF_snoc, hgb, List.length_take, HN.out, Nat.zero_add, Nat.min_eq_left hk])
      have hq := tdiv_nn (b := 2) hxz.1
      have hq0 : 0 ≤ x / 2 := by omega
      have hq1 : x / 2 < (n : Int) := by omega
      have hq3 : IntKind.i64.wrap (x / 2) = x / 2 := i64_small (by omega) (by omega)
      have hk0 : (0 : Int) ≤ (k : Int) := by omega
      have hk1 : (k : Int) < (nd : Int) := by omega
      clear hx hxz hbx hgb hv
      cases b
      · have HTK : Hid (numsF s (ds.take (k + 1)) 0 = numsF s (ds.take k) 0) := Lib.hid (by rw [HST.out]; simp)
        clear HST
        go_wp2_with (go_at_call 81; refine HC.out.mono ?_; rintro e w1 ⟨rfl, rfl⟩)
        go_roundg (nd - (k + 1))
        case measure => omega
        case rel => exact ⟨k + 1, r, by omega, by go_num, rfl, by rw [HTK.out]; exact HRL.out, by omega, by rw [HTK.out]; exact HO.out, HB.out⟩
      · have HTK : Hid (numsF s (ds.take (k + 1)) 0 = numsF s (ds.take k) 0 ++ [(k : Int)]) := Lib.hid (by rw [HST.out]; simp)
        obtain ⟨i0', hi0, hz0, hz1, hz2⟩ := info_of2 infoIS
        have HI0 := Lib.hid (And.intro hi0 (And.intro hz0 (And.intro hz1 hz2)))
        have HR := Lib.hid (reads_oneS wr (.int .i64 (k : Int)) 3)
        have hsz := HB.out.size
        clear HST hi0 hz0 hz1 hz2
        go_wp2_with (first
          | (go_at_call 81; refine HC.out.mono ?_; rintro e w1 ⟨rfl, rfl⟩)
          | (at_builtin; refine wpList_append_any _ rfl (.tmp 20) (.tmp 22) _ rfl w.heap.size 3 i0' _ 1 8 Try.underlying22 HI0.out.1 HI0.out.2.1 HI0.out.2.2.1 HI0.out.2.2.2 rfl (by omega) (.slice Ao r co) r ((numsF s (ds.take k) 0).map (Value.int .i64)) rfl (HO.out.alloc _) (w1.heap.size + 1) (some ⟨w1.heap.size, 0, none⟩) 1 1 [.int .i64 (k : Int)] rfl HR.out (by simp [Value.oneCell']) (by simp only [maxLen]; omega) (by omega) (by simp; omega) ?_; intro v3 w3 hown3 hg3 hat3; have HB3 := Lib.hid ((HB.out.alloc hsz (.cells #[.int .i64 (k : Int)] 3)).grown hg3 (by simp; omega) (fun g hg => (HO.out.lt g hg).1)); have HO3 := Lib.hid hown3; clear hown3 hg3 hat3))
        go_roundg (nd - (k + 1))
        case measure => omega
        case rel => exact ⟨k + 1, r + 1, by omega, by go_num, rfl, by rw [HTK.out]; simp [HRL.out], by omega, by rw [HTK.out]; simpa using HO3.out, HB3.out⟩
    · have hke : k = nd := by omega
      subst hke
      go_wp2
      go_ret
      have := HO.out
      have h2 := HRL.out
      rw [List.take_of_length_le (by rw [HN.out]; exact Nat.le_refl _)] at this h2
      rw [h2]
      exact ⟨_, rfl, this, HB.out⟩

set_option maxHeartbeats 4000000 in
set_option maxRecDepth 100000 in
theorem numbersG_any (w : World) (g n bx : Nat) (s : List Bool) (ds : List Int) (ht : Tab w g s) (hsn : s.length = n) (hds : ∀ d ∈ ds, 0 ≤ d ∧ vOf d < n) (hn1 : n ≤ 20000) (hn16 : ds.length ≤ 16384)
    (hf : ∀ (wx : World) (i : Nat) (d : Int), Below w.heap.size w wx → ds[i]? = some d → Calls Try.prog 82 #[.int .i64 i, .pointer (some ⟨bx, 0, none⟩)] wx fun e w' => e = .returned (.int .i64 d) ∧ w' = wx) :
    Calls Try.prog 79 #[.slice (some ⟨g, 0, none⟩) n n, .int .i64 ds.length, .func (.func 82) #[] #[.pointer (some ⟨bx, 0, none⟩)]] w fun e w' => ∃ v, e = .returned v ∧ w'.ownsRow w.heap.size 3 1 v (numsF s ds 0).length ((numsF s ds 0).map (Value.int .i64)) ∧ Below w.heap.size w w' := by
  have HF := Lib.hid hf
  have HT := Lib.hid ht
  have HDS := Lib.hid hds
  have hgl := Blk.lt ht
  have HSN := Lib.hid hsn
  have HB0 := Lib.hid (Below.refl w.heap.size w)
  clear hf ht hds hsn
  generalize hk : ds.length = nd at *
  have HN := Lib.hid hk
  clear hk
  go_enter Try.func79, Try.ntmps79
  go_wp2
  go_loopg [7, 10] nd (fun j ov iv wr => ∃ k r : Nat, k ≤ nd ∧ iv = .int .i64 k ∧ j = nd - k ∧ (numsF s (ds.take k) 0).length = r ∧ r ≤ k ∧ wr.ownsRow w.heap.size 3 1 ov r ((numsF s (ds.take k) 0).map (Value.int .i64)) ∧ Below w.heap.size w wr)
  case atStart => exact ⟨0, 0, Nat.zero_le _, rfl, rfl, rfl, Nat.le_refl _, ⟨rfl, .inl ⟨rfl, rfl⟩⟩, HB0.out⟩
  case round =>
    obtain ⟨k, r, hk, rfl, hgk, hrl, hrk, hown, hbl⟩ := hrel
    subst hgk
    have HO := Lib.hid hown
    have HB := Lib.hid hbl
    have HRL := Lib.hid hrl
    clear hown hbl HB0 hrl
    obtain ⟨Ao, co, hov⟩ := own_slice1 HO.out
    subst hov
    by_cases hlt : k < nd
    · have hx := List.getElem?_eq_getElem (l := ds) (i := k) (by rw [HN.out]; exact hlt)
      generalize ds[k]'(by rw [HN.out]; exact hlt) = x at hx
      have hxz := HDS.out x (List.mem_of_getElem? hx)
      have HC := Lib.hid (HF.out wr k x HB.out hx)
      have hv : vOf x = (x / 2).toNat := rfl
      obtain ⟨b, hbx⟩ : ∃ b, s[(x / 2).toNat]? = some b := ⟨_, List.getElem?_eq_getElem (by rw [HSN.out]; omega)⟩
      have hgb : s.getD (vOf x) false = b := by rw [List.getD_eq_getElem?_getD, hv, hbx]; rfl
      have hcell := (HB.out.cell (p := ⟨g, (x / 2).toNat, none⟩) hgl).trans (HT.out.cell hbx)
      have HST : Hid (numsF s (ds.take (k + 1)) 0 = numsF s (ds.take k) 0 ++ (if b = true then [(k : Int)] else [])) := Lib.hid (by rw [take_more hx, numsF_snoc, hgb, List.length_take, HN.out, Nat.zero_add, Nat.min_eq_left hk])
      have hq := tdiv_nn (b := 2) hxz.1
      have hq0 : 0 ≤ x / 2 := by omega
      have hq1 : x / 2 < (n : Int) := by omega
      have hq3 : IntKind.i64.wrap (x / 2) = x / 2 := i64_small (by omega) (by omega)
      have hk0 : (0 : Int) ≤ (k : Int) := by omega
      have hk1 : (k : Int) < (nd : Int) := by omega
      clear hx hxz hbx hgb hv
      cases b
      · have HTK : Hid (numsF s (ds.take (k + 1)) 0 = numsF s (ds.take k) 0) := Lib.hid (by rw [HST.out]; simp)
        clear HST
        go_wp2_with (go_at_call 82; refine HC.out.mono ?_; rintro e w1 ⟨rfl, rfl⟩)
        go_roundg (nd - (k + 1))
        case measure => omega
        case rel => exact ⟨k + 1, r, by omega, by go_num, rfl, by rw [HTK.out]; exact HRL.out, by omega, by rw [HTK.out]; exact HO.out, HB.out⟩
      · have HTK : Hid (numsF s (ds.take (k + 1)) 0 = numsF s (ds.take k) 0 ++ [(k : Int)]) := Lib.hid (by rw [HST.out]; simp)
        obtain ⟨i0', hi0, hz0, hz1, hz2⟩ := info_of2 infoIS
        have HI0 := Lib.hid (And.intro hi0 (And.intro hz0 (And.intro hz1 hz2)))
        have HR := Lib.hid (reads_oneS wr (.int .i64 (k : Int)) 3)
        have hsz := HB.out.size
        clear HST hi0 hz0 hz1 hz2
        go_wp2_with (first
          | (go_at_call 82; refine HC.out.mono ?_; rintro e w1 ⟨rfl, rfl⟩)
          | (at_builtin; refine wpList_append_any _ rfl (.tmp 20) (.tmp 22) _ rfl w.heap.size 3 i0' _ 1 8 Try.underlying22 HI0.out.1 HI0.out.2.1 HI0.out.2.2.1 HI0.out.2.2.2 rfl (by omega) (.slice Ao r co) r ((numsF s (ds.take k) 0).map (Value.int .i64)) rfl (HO.out.alloc _) (w1.heap.size + 1) (some ⟨w1.heap.size, 0, none⟩) 1 1 [.int .i64 (k : Int)] rfl HR.out (by simp [Value.oneCell']) (by simp only [maxLen]; omega) (by omega) (by simp; omega) ?_; intro v3 w3 hown3 hg3 hat3; have HB3 := Lib.hid ((HB.out.alloc hsz (.cells #[.int .i64 (k : Int)] 3)).grown hg3 (by simp; omega) (fun g hg => (HO.out.lt g hg).1)); have HO3 := Lib.hid hown3; clear hown3 hg3 hat3))
        go_roundg (nd - (k + 1))
        case measure => omega
        case rel => exact ⟨k + 1, r + 1, by omega, by go_num, rfl, by rw [HTK.out]; simp [HRL.out], by omega, by rw [HTK.out]; simpa using HO3.out, HB3.out⟩
    · have hke : k = nd := by omega
      subst hke
      go_wp2
      go_ret
      have := HO.out
      have h2 := HRL.out
      rw [List.take_of_length_le (by rw [HN.out]; exact Nat.le_refl _)] at this h2
      rw [h2]
      exact ⟨_, rfl, this, HB.out⟩

set_option maxHeartbeats 4000000 in
set_option maxRecDepth 100000 in
theorem inputs1_any (w w0 : World) (V : CV) (C : Circ) (h : C.In w0 V) (m : Int) (bx i : Nat) (d : Int) (hw : Below w0.heap.size w0 w) (hbx : Blk w bx 29 (V.cells m)) (hd : C.inputs[i]? = some d) (_hn : C.inputs.length ≤ 16384) :
    Calls Try.prog 80 #[.int .i64 i, .pointer (some ⟨bx, 0, none⟩)] w fun e w' => e = .returned (.int .i64 d) ∧ w' = w := by
  obtain ⟨A, c, eV, _, _, hA⟩ := h.i
  obtain ⟨z, hz, hzd⟩ : ∃ z, C.inputs[i]? = some z ∧ z = d := ⟨d, hd, rfl⟩
  have hi : i < C.inputs.length := (List.getElem?_eq_some_iff.1 hz).1
  obtain ⟨b, off, rfl, hb, hcell⟩ := hA i z hz
  have h0 := (hw.cell (p := ⟨b, off + (i * 1 + 0), none⟩) hb).trans (hcell 0 _ rfl)
  rw [hzd] at h0
  simp only [Nat.add_zero, Nat.mul_one] at h0
  have hc := hbx.cell 1
  obtain ⟨Vi, Vl, Vo, Vb, Vc, Vj, Vf, Va, Vs, Vt⟩ := V
  simp only at eV
  subst eV
  simp only [List.getElem?_toArray, List.getElem?_cons_succ, List.getElem?_cons_zero] at hc
  generalize C.inputs.length = nn at *
  have hk0 : (0 : Int) ≤ (i : Int) := by omega
  have hk1 : (i : Int) < (nn : Int) := by omega
  clear hz hd hzd hcell hA h
  go_enter Try.func80, Try.ntmps80
  go_wp2
  go_ret
  exact ⟨rfl, rfl⟩

set_option maxHeartbeats 4000000 in
set_option maxRecDepth 100000 in
theorem inputs_any (w : World) (V : CV) (C : Circ) (h : C.In w V) (hr : Fine C) (hrr : Right C) (g : Nat) (s : List Bool) (ht : Tab w g s) (hsn : s.length = C.max.toNat + 1) :
    Calls Try.prog 47 #[.slice (some ⟨g, 0, none⟩) (C.max.toNat + 1) (C.max.toNat + 1), V.val C.max] w fun e w' => ∃ v, e = .returned v ∧ w'.ownsRow w.heap.size 3 1 v (numsF s C.inputs 0).length ((numsF s C.inputs 0).map (Value.int .i64)) ∧ Below w.heap.size w w' := by
  have hb0 := (Below.refl w.heap.size w).alloc (Nat.le_refl _) (.cells (V.cells C.max) 29)
  have hbx0 := Blk.new w 29 (V.cells C.max)
  have HNUM := Lib.hid (numbersI_any (w.alloc (.cells (V.cells C.max) 29)) g (C.max.toNat + 1) w.heap.size s C.inputs (Blk.alloc ht _) hsn (fun d hd => by
      have hm : d ∈ defsL C := hr.in_mem hd
      exact ⟨by have := hr.d.two _ hm; omega, (hr.v_lt hm).2⟩) (by have := hrr.m1; omega) (hrr.ni)
    (fun wx i d hwx hd => inputs1_any wx w V C h C.max w.heap.size i d (hb0.trans (hwx.mono (by simp))) (hbx0.below hwx hbx0.lt) hd hrr.ni))
  have HB0 := Lib.hid hb0
  obtain ⟨A, c, eV, _⟩ := h.i
  have hc := hbx0.cell 1
  obtain ⟨Vi, Vl, Vo, Vb, Vc, Vj, Vf, Va, Vs, Vt⟩ := V
  simp only at eV
  subst eV
  simp only [List.getElem?_toArray, List.getElem?_cons_succ, List.getElem?_cons_zero] at hc
  clear hb0 hbx0 h ht hsn
  go_enter Try.func47, Try.ntmps47
  go_wp2_with (go_at_call 79; refine HNUM.out.mono ?_; rintro e w2 ⟨v, rfl, ho, hb⟩; have HO := Lib.hid ho; have HB := Lib.hid hb; clear ho hb)
  go_ret
  exact ⟨_, rfl, own_le HO.out (by simp), bt HB0.out (by simp) HB.out⟩

set_option maxHeartbeats 4000000 in
set_option maxRecDepth 100000 in
theorem latches1_any (w w0 : World) (V : CV) (C : Circ) (h : C.In w0 V) (m : Int) (bx i : Nat) (d : Int) (hw : Below w0.heap.size w0 w) (hbx : Blk w bx 29 (V.cells m)) (hd : (C.latches.map (·.1))[i]? = some d) (_hn : C.latches.length ≤ 16384) :
    Calls Try.prog 81 #[.int .i64 i, .pointer (some ⟨bx, 0, none⟩)] w fun e w' => e = .returned (.int .i64 d) ∧ w' = w := by
  obtain ⟨A, c, eV, _, _, hA⟩ := h.l
  obtain ⟨z, hz, hzd⟩ : ∃ z, C.latches[i]? = some z ∧ z.1 = d := by rw [List.getElem?_map] at hd; obtain ⟨z, h1, h2⟩ := Option.map_eq_some_iff.1 hd; exact ⟨z, h1, h2⟩
  have hi : i < C.latches.length := (List.getElem?_eq_some_iff.1 hz).1
  obtain ⟨b, off, rfl, hb, hcell⟩ := hA i z hz
  have h0 := (hw.cell (p := ⟨b, off + (i * 3 + 0), none⟩) hb).trans (hcell 0 _ rfl)
  rw [hzd] at h0
  simp only [Nat.add_zero] at h0
  have hc := hbx.cell 2
  obtain ⟨Vi, Vl, Vo, Vb, Vc, Vj, Vf, Va, Vs, Vt⟩ := V
  simp only at eV
  subst eV
  simp only [List.getElem?_toArray, List.getElem?_cons_succ, List.getElem?_cons_zero] at hc
  generalize C.latches.length = nn at *
  have hk0 : (0 : Int) ≤ (i : Int) := by omega
  have hk1 : (i : Int) < (nn : Int) := by omega
  clear hz hd hzd hcell hA h
  go_enter Try.func81, Try.ntmps81
  go_wp2
  go_ret
  exact ⟨rfl, rfl⟩

set_option maxHeartbeats 4000000 in
set_option maxRecDepth 100000 in
theorem latches_any (w : World) (V : CV) (C : Circ) (h : C.In w V) (hr : Fine C) (hrr : Right C) (g : Nat) (s : List Bool) (ht : Tab w g s) (hsn : s.length = C.max.toNat + 1) :
    Calls Try.prog 48 #[.slice (some ⟨g, 0, none⟩) (C.max.toNat + 1) (C.max.toNat + 1), V.val C.max] w fun e w' => ∃ v, e = .returned v ∧ w'.ownsRow w.heap.size 3 1 v (numsF s (C.latches.map (·.1)) 0).length ((numsF s (C.latches.map (·.1)) 0).map (Value.int .i64)) ∧ Below w.heap.size w w' := by
  have hb0 := (Below.refl w.heap.size w).alloc (Nat.le_refl _) (.cells (V.cells C.max) 29)
  have hbx0 := Blk.new w 29 (V.cells C.max)
  have HNUM := Lib.hid (numbersL_any (w.alloc (.cells (V.cells C.max) 29)) g (C.max.toNat + 1) w.heap.size s (C.latches.map (·.1)) (Blk.alloc ht _) hsn (fun d hd => by
      have hm : d ∈ defsL C := by obtain ⟨z, hz, rfl⟩ := List.mem_map.1 hd; exact hr.latch_mem hz
      exact ⟨by have := hr.d.two _ hm; omega, (hr.v_lt hm).2⟩) (by have := hrr.m1; omega) (by rw [List.length_map]; exact hrr.nl)
    (fun wx i d hwx hd => latches1_any wx w V C h C.max w.heap.size i d (hb0.trans (hwx.mono (by simp))) (hbx0.below hwx hbx0.lt) hd hrr.nl))
  have HB0 := Lib.hid hb0
  obtain ⟨A, c, eV, _⟩ := h.l
  have hc := hbx0.cell 2
  rw [List.length_map] at HNUM
  obtain ⟨Vi, Vl, Vo, Vb, Vc, Vj, Vf, Va, Vs, Vt⟩ := V
  simp only at eV
  subst eV
  simp only [List.getElem?_toArray, List.getElem?_cons_succ, List.getElem?_cons_zero] at hc
  clear hb0 hbx0 h ht hsn
  go_enter Try.func48, Try.ntmps48
  go_wp2_with (go_at_call 79; refine HNUM.out.mono ?_; rintro e w2 ⟨v, rfl, ho, hb⟩; have HO := Lib.hid ho; have HB := Lib.hid hb; clear ho hb)
  go_ret
  exact ⟨_, rfl, own_le HO.out (by simp), bt HB0.out (by simp) HB.out⟩

set_option maxHeartbeats 4000000 in
set_option maxRecDepth 100000 in
theorem gates1_any (w w0 : World) (V : CV) (C : Circ) (h : C.In w0 V) (m : Int) (bx i : Nat) (d : Int) (hw : Below w0.heap.size w0 w) (hbx : Blk w bx 29 (V.cells m)) (hd : (C.ands.map (·.1))[i]? = some d) (_hn : C.ands.length ≤ 16384) :
    Calls Try.prog 82 #[.int .i64 i, .pointer (some ⟨bx, 0, none⟩)] w fun e w' => e = .returned (.int .i64 d) ∧ w' = w := by
  obtain ⟨A, c, eV, _, _, hA⟩ := h.a
  obtain ⟨z, hz, hzd⟩ : ∃ z, C.ands[i]? = some z ∧ z.1 = d := by rw [List.getElem?_map] at hd; obtain ⟨z, h1, h2⟩ := Option.map_eq_some_iff.1 hd; exact ⟨z, h1, h2⟩
  have hi : i < C.ands.length := (List.getElem?_eq_some_iff.1 hz).1
  obtain ⟨b, off, rfl, hb, hcell⟩ := hA i z hz
  have h0 := (hw.cell (p := ⟨b, off + (i * 3 + 0), none⟩) hb).trans (hcell 0 _ rfl)
  rw [hzd] at h0
  simp only [Nat.add_zero] at h0
  have hc := hbx.cell 8
  obtain ⟨Vi, Vl, Vo, Vb, Vc, Vj, Vf, Va, Vs, Vt⟩ := V
  simp only at eV
  subst eV
  simp only [List.getElem?_toArray, List.getElem?_cons_succ, List.getElem?_cons_zero] at hc
  generalize C.ands.length = nn at *
  have hk0 : (0 : Int) ≤ (i : Int) := by omega
  have hk1 : (i : Int) < (nn : Int) := by omega
  clear hz hd hzd hcell hA h
  go_enter Try.func82, Try.ntmps82
  go_wp2
  go_ret
  exact ⟨rfl, rfl⟩

set_option maxHeartbeats 4000000 in
set_option maxRecDepth 100000 in
theorem gates_any (w : World) (V : CV) (C : Circ) (h : C.In w V) (hr : Fine C) (hrr : Right C) (g : Nat) (s : List Bool) (ht : Tab w g s) (hsn : s.length = C.max.toNat + 1) :
    Calls Try.prog 49 #[.slice (some ⟨g, 0, none⟩) (C.max.toNat + 1) (C.max.toNat + 1), V.val C.max] w fun e w' => ∃ v, e = .returned v ∧ w'.ownsRow w.heap.size 3 1 v (numsF s (C.ands.map (·.1)) 0).length ((numsF s (C.ands.map (·.1)) 0).map (Value.int .i64)) ∧ Below w.heap.size w w' := by
  have hb0 := (Below.refl w.heap.size w).alloc (Nat.le_refl _) (.cells (V.cells C.max) 29)
  have hbx0 := Blk.new w 29 (V.cells C.max)
  have HNUM := Lib.hid (numbersG_any (w.alloc (.cells (V.cells C.max) 29)) g (C.max.toNat + 1) w.heap.size s (C.ands.map (·.1)) (Blk.alloc ht _) hsn (fun d hd => by
      have hm : d ∈ defsL C := by obtain ⟨z, hz, rfl⟩ := List.mem_map.1 hd; exact hr.and_mem hz
      exact ⟨by have := hr.d.two _ hm; omega, (hr.v_lt hm).2⟩) (by have := hrr.m1; omega) (by rw [List.length_map]; exact hrr.na)
    (fun wx i d hwx hd => gates1_any wx w V C h C.max w.heap.size i d (hb0.trans (hwx.mono (by simp))) (hbx0.below hwx hbx0.lt) hd hrr.na))
  have HB0 := Lib.hid hb0
  obtain ⟨A, c, eV, _⟩ := h.a
  have hc := hbx0.cell 8
  rw [List.length_map] at HNUM
  obtain ⟨Vi, Vl, Vo, Vb, Vc, Vj, Vf, Va, Vs, Vt⟩ := V
  simp only at eV
  subst eV
  simp only [List.getElem?_toArray, List.getElem?_cons_succ, List.getElem?_cons_zero] at hc
  clear hb0 hbx0 h ht hsn
  go_enter Try.func49, Try.ntmps49
  go_wp2_with (go_at_call 79; refine HNUM.out.mono ?_; rintro e w2 ⟨v, rfl, ho, hb⟩; have HO := Lib.hid ho; have HB := Lib.hid hb; clear ho hb)
  go_ret
  exact ⟨_, rfl, own_le HO.out (by simp), bt HB0.out (by simp) HB.out⟩
end Go.Proofs.Ytagffmalmkcboaa

namespace Go.Proofs.Ytagffmalmkcboaa
open Go.RowKit Go.Maps

def selF {α : Type} (f : α → Int) (s : List Bool) (xs : List α) : List α := xs.filter fun x => s.getD (vOf (f x)) false
theorem selF_len {α : Type} (f : α → Int) (s : List Bool) : ∀ (xs : List α) (k : Nat), (numsF s (xs.map f) k).length = (selF f s xs).length
  | [], _ => rfl
  | x :: r, k => by
    have h := selF_len f s r (k + 1)
    show (if s.getD (vOf (f x)) false = true then (k : Int) :: numsF s (r.map f) (k + 1) else numsF s (r.map f) (k + 1)).length = _
    unfold selF at h ⊢
    rw [List.filter_cons]
    split <;> simp [h]
theorem selF_get {α : Type} {f : α → Int} {s : List Bool} {i : Int} : ∀ {xs : List α} {k q : Nat}, (numsF s (xs.map f) k)[q]? = some i → ∃ j x, i = ((k + j : Nat) : Int) ∧ xs[j]? = some x ∧ (selF f s xs)[q]? = some x
  | [], _, _, h => by simp [numsF] at h
  | x :: r, k, q, h => by
    have h' : (if s.getD (vOf (f x)) false = true then (k : Int) :: numsF s (r.map f) (k + 1) else numsF s (r.map f) (k + 1))[q]? = some i := h
    have hs : selF f s (x :: r) = if s.getD (vOf (f x)) false = true then x :: selF f s r else selF f s r := by
      unfold selF; rw [List.filter_cons]
    rw [hs]
    by_cases e : s.getD (vOf (f x)) false = true
    · rw [if_pos e] at h' ⊢
      cases q with
      | zero => exact ⟨0, x, by simpa using h'.symm, rfl, rfl⟩
      | succ q =>
        obtain ⟨j, y, h1, h2, h3⟩ := selF_get (xs := r) (k := k + 1) (q := q) (by simpa using h')
        exact ⟨j + 1, y, by rw [h1]; congr 1; omega, by simpa using h2, by simpa using h3⟩
    · rw [if_neg e] at h' ⊢
      obtain ⟨j, y, h1, h2, h3⟩ := selF_get (xs := r) (k := k + 1) (q := q) h'
      exact ⟨j + 1, y, by rw [h1]; congr 1; omega, by simpa using h2, h3⟩
def lit0 (C : Circ) : List Int := (List.replicate (C.max.toNat + 1) (-1)).set 0 0
def cutI (C : Circ) (s : List Bool) : List Int := selF id s C.inputs
def cutL (C : Circ) (s : List Bool) : List Tri := selF (·.1) s C.latches
def cutA (C : Circ) (s : List Bool) : List Tri := selF (·.1) s C.ands
def cutD (C : Circ) (s : List Bool) : List Int := cutI C s ++ (cutL C s).map (·.1) ++ (cutA C s).map (·.1)
def litM (C : Circ) (s : List Bool) : List Int := (numF (cutD C s) (0, lit0 C)).2
theorem litM_len (C : Circ) (s : List Bool) : (litM C s).length = C.max.toNat + 1 := by
  unfold litM
  rw [(numF_len _ _).1]
  simp [lit0]
def ofF (M : List Int) (l : Int) : Int := M.getD (vOf l) 0 + l % 2

set_option maxHeartbeats 4000000 in
set_option maxRecDepth 100000 in
theorem litOf_any (w : World) (g n : Nat) (M : List Int) (l : Int) (hM : w.cell? ⟨g, vOf l, none⟩ = some (.int .i64 (M.getD (vOf l) 0))) (hl : 0 ≤ l) (hn : vOf l < n) (hn1 : n ≤ 20000) (hb : -1 ≤ M.getD (vOf l) 0 ∧ M.getD (vOf l) 0 ≤ 900000) :
    Calls Try.prog 52 #[.slice (some ⟨g, 0, none⟩) n n, .int .i64 l] w fun e w' => e = .returned (.int .i64 (ofF M l)) ∧ w' = w := by
  have hof : ofF M l = M.getD (vOf l) 0 + l % 2 := rfl
  have HOF := Lib.hid hof
  generalize M.getD (vOf l) 0 = y at *
  have hv : vOf l = (l / 2).toNat := rfl
  rw [hv] at hM hn
  have hq := tdiv_nn (b := 2) hl
  have hm : l.tmod 2 = l % 2 := Int.tmod_eq_emod_of_nonneg hl
  have hq0 : 0 ≤ l / 2 := by omega
  have hq1 : l / 2 < (n : Int) := by omega
  have hq3 : IntKind.i64.wrap (l / 2) = l / 2 := i64_small (by omega) (by omega)
  have hm0 : 0 ≤ l % 2 ∧ l % 2 < 2 := by omega
  have hm3 : IntKind.i64.wrap (l % 2) = l % 2 := i64_small (by omega) (by omega)
  have hw3 : IntKind.i64.wrap (y + l % 2) = y + l % 2 := by
    simp only [IntKind.wrap, IntKind.bits, IntKind.signed]; simp; omega
  clear hof hv
  go_enter Try.func52, Try.ntmps52
  go_wp2
  go_ret
  exact ⟨by rw [HOF.out]; rfl, rfl⟩

def LitRow (w : World) (g n : Nat) (M : List Int) : Prop := Nums w g M ∧ M.length = n
theorem LitRow.at_ {w : World} {g n : Nat} {M : List Int} (h : LitRow w g n M) {v : Nat} (hv : v < n) : w.cell? ⟨g, v, none⟩ = some (.int .i64 (M.getD v 0)) := by
  obtain ⟨x, hx⟩ : ∃ x, M[v]? = some x := ⟨_, List.getElem?_eq_getElem (by rw [h.2]; exact hv)⟩
  rw [List.getD_eq_getElem?_getD, hx]
  exact h.1.cell hx
def FitM (M : List Int) : Prop := ∀ x ∈ M, -1 ≤ x ∧ x ≤ 900000
theorem FitM.get {M : List Int} (h : FitM M) (v : Nat) : -1 ≤ M.getD v 0 ∧ M.getD v 0 ≤ 900000 := by
  rw [List.getD_eq_getElem?_getD]
  rcases hx : M[v]? with _ | x
  · simp
  · exact h x (List.mem_of_getElem? hx)
theorem fitM_set {M : List Int} (h : FitM M) {i : Nat} {x : Int} (hx : -1 ≤ x ∧ x ≤ 900000) : FitM (M.set i x) := fun y hy => by
  rcases List.mem_or_eq_of_mem_set hy with h1 | rfl
  · exact h y h1
  · exact hx
theorem fitM_num : ∀ (ls : List Int) (st : Int × List Int), FitM st.2 → 0 ≤ st.1 → st.1 + 2 * ls.length ≤ 900000 → FitM (numF ls st).2
  | [], _, h, _, _ => h
  | l :: r, st, h, h0, h1 => by
    have h2 : st.1 + 2 * ((r.length + 1 : Nat) : Int) ≤ 900000 := h1
    exact fitM_num r (st.1 + 2, st.2.set (l / 2).toNat (st.1 + 2)) (fitM_set h ⟨by omega, by omega⟩) (by show (0 : Int) ≤ st.1 + 2; omega) (by show st.1 + 2 + 2 * (r.length : Int) ≤ 900000; omega)
theorem fitM_0 (C : Circ) : FitM (lit0 C) := fun x hx => by
  rcases List.mem_or_eq_of_mem_set hx with h1 | rfl
  · have := (List.mem_replicate.1 h1).2
    omega
  · omega
theorem cutD_len {C : Circ} (hr : Right C) (s : List Bool) : (cutI C s).length ≤ 16384 ∧ (cutL C s).length ≤ 16384 ∧ (cutA C s).length ≤ 16384 := by
  have h1 := hr.ni; have h2 := hr.nl; have h3 := hr.na
  exact ⟨Nat.le_trans (List.length_filter_le _ _) h1, Nat.le_trans (List.length_filter_le _ _) h2, Nat.le_trans (List.length_filter_le _ _) h3⟩
theorem fitM_lit {C : Circ} (hr : Right C) (s : List Bool) : FitM (litM C s) := by
  obtain ⟨h1, h2, h3⟩ := cutD_len hr s
  refine fitM_num _ _ (fitM_0 C) (Int.le_refl _) ?_
  unfold cutD
  simp only [List.length_append, List.length_map]
  show (0 : Int) + _ ≤ _
  omega

set_option maxHeartbeats 4000000 in
set_option maxRecDepth 100000 in
theorem litAll_any (w : World) (g n : Nat) (M : List Int) (v : Value) (L : List Int) (hM : LitRow w g n M) (hf : FitM M) (hn1 : n ≤ 20000) (hv : RowE 1 encI w v L) (hL : ∀ l ∈ L, 0 ≤ l ∧ vOf l < n) (hl16 : L.length ≤ 60000) :
    Calls Try.prog 51 #[.slice (some ⟨g, 0, none⟩) n n, v] w fun e w' => ∃ gr, e = .returned (.slice (some ⟨gr, 0, none⟩) L.length L.length) ∧ w.heap.size ≤ gr ∧ Below w.heap.size w w' ∧ Nums w' gr (L.map (ofF M)) := by
  obtain ⟨A, c, rfl, _, _, hA⟩ := hv
  have hgl := Blk.lt hM.1
  have HM := Lib.hid hM
  have HA := Lib.hid hA
  have HF := Lib.hid hf
  have HL := Lib.hid hL
  have hmk := make_ints L.length (by omega)
  have HN0 := Lib.hid (new_ints w L.length)
  have HB0 := Lib.hid ((Below.refl w.heap.size w).alloc (Nat.le_refl _) (.cells (madeCells #[Value.int .i64 0] L.length) 3))
  clear hM hA hf hL
  generalize hl : L.length = nl at *
  have HLN := Lib.hid hl
  clear hl
  obtain ⟨wg, hwg⟩ : ∃ k, w.heap.size = k := ⟨_, rfl⟩
  rw [hwg] at HN0 hgl
  go_enter Try.func51, Try.ntmps51
  go_wp2
  go_loopg [13] nl (fun j iv wr => ∃ k : Nat, k ≤ nl ∧ j = nl - k ∧ iv = .int .i64 k ∧ Below w.heap.size w wr ∧ Nums wr wg ((L.take k).map (ofF M) ++ List.replicate (nl - k) 0))
  case atStart => exact ⟨0, Nat.zero_le _, rfl, rfl, HB0.out, HN0.out⟩
  case round =>
    obtain ⟨k, hk, hgk, rfl, hbl, hnu⟩ := hrel
    subst hgk
    have HB := Lib.hid hbl
    have HNU := Lib.hid hnu
    clear hbl hnu
    by_cases hlt : k < nl
    · have hx := List.getElem?_eq_getElem (l := L) (i := k) (by rw [HLN.out]; exact hlt)
      generalize L[k]'(by rw [HLN.out]; exact hlt) = x at hx
      obtain ⟨b, off, rfl, hb, hcell⟩ := HA.out k x hx
      have h0 := (HB.out.cell (p := ⟨b, off + (k * 1 + 0), none⟩) hb).trans (hcell 0 _ rfl)
      simp only [Nat.add_zero, Nat.mul_one] at h0
      have hxz := HL.out x (List.mem_of_getElem? hx)
      have HX := Lib.hid hx
      have HC := Lib.hid (litOf_any wr g n M x ((HB.out.cell (p := ⟨g, vOf x, none⟩) (by show g < w.heap.size; omega)).trans (HM.out.at_ hxz.2)) hxz.1 hxz.2 hn1 (HF.out.get _))
      have hlen : ((L.take k).map (ofF M) ++ List.replicate (nl - k) (0 : Int)).length = nl := by simp [HLN.out]; omega
      obtain ⟨y, hy⟩ : ∃ y, ((L.take k).map (ofF M) ++ List.replicate (nl - k) (0 : Int))[k]? = some y := ⟨_, List.getElem?_eq_getElem (by rw [hlen]; exact hlt)⟩
      have hcy := HNU.out.cell hy
      have hfr := Blk.frozen HNU.out k
      have hgw := Blk.lt HNU.out
      have HSET : Hid (((L.take k).map (ofF M) ++ List.replicate (nl - k) (0 : Int)).set k (ofF M x) = (L.take (k + 1)).map (ofF M) ++ List.replicate (nl - (k + 1)) 0) := Lib.hid (by
        rw [take_more HX.out, List.map_append, show nl - k = (nl - (k + 1)) + 1 by omega, List.replicate_succ]
        have hlk : ((L.take k).map (ofF M)).length = k := by simp [HLN.out]; omega
        rw [List.set_append_right _ _ (by omega), hlk, Nat.sub_self, List.set_cons_zero]
        simp)
      have hk0 : (0 : Int) ≤ (k : Int) := by omega
      have hk1 : (k : Int) < (nl : Int) := by omega
      clear hcell hx hxz hy hlen
      go_wp2_with (go_at_call 52; refine HC.out.mono ?_; rintro e w1 ⟨rfl, rfl⟩)
      go_roundg (nl - (k + 1))
      case measure => omega
      case rel => exact ⟨k + 1, by omega, rfl, by go_num, HB.out.setCell (by show w.heap.size ≤ wg; omega) _, by rw [← HSET.out]; exact HNU.out.set_ k _⟩
    · have hke : k = nl := by omega
      subst hke
      go_wp2
      go_ret
      refine ⟨wg, rfl, by omega, HB.out, ?_⟩
      have := HNU.out
      rw [List.take_of_length_le (by rw [HLN.out]; exact Nat.le_refl _)] at this
      simpa using this

structure LitS (w0 w : World) (bx gm bm bl : Nat) (cs : Array Value) (st : Int × List Int) : Prop where
  below : Below w0.heap.size w0 w
  box : Blk w bx 29 cs
  last : Blk w bl 3 #[.int .i64 st.1]
  mp : Blk w bm 92 #[.slice (some ⟨gm, 0, none⟩) st.2.length st.2.length]
  nums : Nums w gm st.2
theorem LitS.step {w0 w : World} {bx gm bm bl : Nat} {cs : Array Value} {ls : List Int} {l : Int} {s0 : Int × List Int} (h : LitS w0 w bx gm bm bl cs (numF ls s0)) (hg : w0.heap.size ≤ gm) (hl : gm < bl) {last : Int} (he : (numF ls s0).1 = last) :
    LitS w0 ((w.setCell ⟨bl, 0, none⟩ (.int .i64 (last + 2))).setCell ⟨gm, (l / 2).toNat, none⟩ (.int .i64 (last + 2))) bx gm bm bl cs (numF (ls ++ [l]) s0) := by
  subst he
  rw [numF_snoc]
  have h1 : bm ≠ bl := h.mp.ne_ h.last (by decide)
  have h2 : bm ≠ gm := h.mp.ne_ h.nums (by decide)
  have h3 : bx ≠ bl := h.box.ne_ h.last (by decide)
  have h4 : bx ≠ gm := h.box.ne_ h.nums (by decide)
  refine ⟨(h.below.setCell (by show w0.heap.size ≤ bl; omega) _).setCell (by show w0.heap.size ≤ gm; omega) _, Blk.far (Blk.far h.box h3 _) h4 _, Blk.far (by simpa using Blk.set_ h.last 0 (.int .i64 ((numF ls s0).1 + 2))) (by show bl ≠ gm; omega) _, ?_, Nums.set_ (Blk.far h.nums (by show gm ≠ bl; omega) _) _ _⟩
  rw [List.length_set]
  exact Blk.far (Blk.far h.mp h1 _) h2 _
set_option maxHeartbeats 1000000 in
set_option maxRecDepth 100000 in
theorem numberC_any (w0 w : World) (bx gm bm bl : Nat) (cs : Array Value) (st : Int × List Int) (l : Int) (h : LitS w0 w bx gm bm bl cs st) (hl3 : gm < bl) (h0 : 0 ≤ l) (hl : l / 2 < (st.2.length : Int)) (hm : st.2.length ≤ 100000) (hL : 0 ≤ st.1) (hL2 : st.1 ≤ 1000000) :
    Calls Try.prog 83 #[.int .i64 l, .pointer (some ⟨bl, 0, none⟩), .pointer (some ⟨bm, 0, none⟩)] w fun e w' => e = .returned (.tuple #[]) ∧ w' = (w.setCell ⟨bl, 0, none⟩ (.int .i64 (st.1 + 2))).setCell ⟨gm, (l / 2).toNat, none⟩ (.int .i64 (st.1 + 2)) := by
  obtain ⟨last, M⟩ := st
  have h1 : bm ≠ bl := h.mp.ne_ h.last (by decide)
  have h2 : bm ≠ gm := h.mp.ne_ h.nums (by decide)
  simp only at hl hm hL hL2 ⊢
  have hk : (l / 2).toNat < M.length := by omega
  have c0 := h.last.cell 0
  have f0 := Blk.frozen h.last 0
  have hs := Blk.set_ h.last 0 (.int .i64 (last + 2))
  have d0 := hs.cell 0
  have hm1 := Blk.far h.mp (p := ⟨bl, 0, none⟩) h1 (.int .i64 (last + 2))
  have d1 := hm1.cell 0
  have hn1 : Nums (w.setCell ⟨bl, 0, none⟩ (.int .i64 (last + 2))) gm M := Blk.far h.nums (by show gm ≠ bl; omega) _
  obtain ⟨x, hx⟩ : ∃ x, M[(l / 2).toNat]? = some x := ⟨_, List.getElem?_eq_getElem hk⟩
  have d2 := hn1.cell hx
  have f2 := Blk.frozen hn1 (l / 2).toNat
  simp only [List.getElem?_toArray, List.getElem?_cons_zero] at c0 d1
  simp at d0
  have hq := tdiv_nn (b := 2) h0
  have hq0 : 0 ≤ l / 2 := by omega
  clear h hs hm1 hn1 hx hk
  go_enter Try.func83, Try.ntmps83
  go_wp2
  go_end0
  exact ⟨rfl, rfl⟩

set_option maxHeartbeats 4000000 in
set_option maxRecDepth 100000 in
theorem newLits_any (w : World) (V : CV) (C : Circ) (s : List Bool) (vi vl va : Value) (h : C.In w V) (hr : Right C) (hi : RowE 1 encI w vi (numsF s C.inputs 0)) (hl : RowE 1 encI w vl (numsF s (C.latches.map (·.1)) 0)) (ha : RowE 1 encI w va (numsF s (C.ands.map (·.1)) 0)) :
    Calls Try.prog 50 #[V.val C.max, vi, vl, va] w fun e w' => ∃ g, e = .returned (.slice (some ⟨g, 0, none⟩) (C.max.toNat + 1) (C.max.toNat + 1)) ∧ w.heap.size ≤ g ∧ Below w.heap.size w w' ∧ Nums w' g (litM C s) := by
  have hm0 := hr.m0
  have hm1 := hr.m1
  obtain ⟨m, hmm⟩ : ∃ m : Nat, C.max = (m : Int) := ⟨C.max.toNat, by omega⟩
  have hmt : C.max.toNat = m := by rw [hmm]; rfl
  have HLM : Hid (litM C s = (numF (selF id s C.inputs ++ (selF (·.1) s C.latches).map (·.1) ++ (selF (·.1) s C.ands).map (·.1)) (0, lit0 C)).2) := Lib.hid rfl
  have HLEN : Hid (∀ ls : List Int, (numF ls (0, lit0 C)).2.length = m + 1 ∧ (numF ls (0, lit0 C)).1 = 2 * (ls.length : Int)) := Lib.hid (fun ls => by
    obtain ⟨a, b⟩ := numF_len ls (0, lit0 C)
    rw [a, b]
    exact ⟨by simp [lit0, hmt], by simp⟩)
  have HSZ : Hid ((selF id s C.inputs).length ≤ 16384 ∧ (selF (·.1) s C.latches).length ≤ 16384 ∧ (selF (·.1) s C.ands).length ≤ 16384) := Lib.hid (cutD_len hr s)
  have HL0 : Hid (lit0 C = (List.replicate (m + 1) (-1)).set 0 0) := Lib.hid (by unfold lit0; rw [hmt])
  have HFI : Hid (∀ z ∈ C.inputs, 0 ≤ z ∧ z / 2 ≤ (m : Int)) := Lib.hid (fun z hz => by have := hr.i z hz; omega)
  have HFL : Hid (∀ z ∈ C.latches, 0 ≤ z.1 ∧ z.1 / 2 ≤ (m : Int)) := Lib.hid (fun z hz => by have := fitL_of hr z hz; omega)
  have HFA : Hid (∀ z ∈ C.ands, 0 ≤ z.1 ∧ z.1 / 2 ≤ (m : Int)) := Lib.hid (fun z hz => by have := (fitT_of hr z hz).1; omega)
  have hm16 : m ≤ 16384 := by omega
  rw [hmm] at *
  rw [show ((m : Int).toNat) = m by omega]
  obtain ⟨AI, cI, eI, _, _, hI⟩ := h.i
  obtain ⟨AL, cL, eL, _, _, hL⟩ := h.l
  obtain ⟨AA, cA, eA, _, _, hA⟩ := h.a
  obtain ⟨BI, dI, rfl, _, _, hRI⟩ := hi
  obtain ⟨BL, dL, rfl, _, _, hRL⟩ := hl
  obtain ⟨BA, dA, rfl, _, _, hRA⟩ := ha
  obtain ⟨Vi, Vl, Vo, Vb, Vc, Vj, Vf, Va, Vs, Vt⟩ := V
  simp only at eI eL eA
  subst eI eL eA
  have HI := Lib.hid hI
  have HL := Lib.hid hL
  have HA := Lib.hid hA
  have HRI := Lib.hid hRI
  have HRL := Lib.hid hRL
  have HRA := Lib.hid hRA
  have hsI := selF_len id s C.inputs 0
  have hsL := selF_len (fun z : Tri => z.1) s C.latches 0
  have hsA := selF_len (fun z : Tri => z.1) s C.ands 0
  rw [List.map_id] at hsI
  have hz1 := hr.ni
  have hz2 := hr.nl
  have hz3 := hr.na
  clear hI hL hA hRI hRL hRA h hr hm0 hm1 hmm hmt
  generalize h1 : C.inputs.length = nI at *
  generalize h2 : C.latches.length = nL at *
  generalize h3 : C.ands.length = nA at *
  generalize h4 : (numsF s C.inputs 0).length = mI at *
  generalize h5 : (numsF s (C.latches.map (·.1)) 0).length = mL at *
  generalize h6 : (numsF s (C.ands.map (·.1)) 0).length = mA at *
  have HnI := Lib.hid h1
  have HnL := Lib.hid h2
  have HnA := Lib.hid h3
  have HmI := Lib.hid h4
  have HmL := Lib.hid h5
  have HmA := Lib.hid h6
  have HSmI := Lib.hid hsI.symm
  have HSmL := Lib.hid hsL.symm
  have HSmA := Lib.hid hsA.symm
  have hmI : mI ≤ 16384 := by have := HSZ.out.1; omega
  have hmL : mL ≤ 16384 := by have := HSZ.out.2.1; omega
  have hmA : mA ≤ 16384 := by have := HSZ.out.2.2; omega
  clear h1 h2 h3 h4 h5 h6 hsI hsL hsA
  obtain ⟨CS, hCS⟩ : ∃ CS : Array Value, CS = #[.int .i64 m, .slice AI nI cI, .slice AL nL cL, Vo, Vb, Vc, Vj, Vf, .slice AA nA cA, Vs, Vt] := ⟨_, rfl⟩
  have HCS := Lib.hid hCS
  have hb0 := ((Below.refl w.heap.size w).alloc (Nat.le_refl _) (.cells CS 29)).alloc (by simp) (.cells #[.int .i64 (-1)] 3)
  have hx0 := (Blk.new w 29 CS).alloc (.cells #[.int .i64 (-1)] 3)
  have hone : ((w.alloc (.cells CS 29)).alloc (.cells #[.int .i64 (-1)] 3)).cell? ⟨w.heap.size + 1, 0, none⟩ = some (.int .i64 (-1)) := by
    have h9 := (Blk.new (w.alloc (.cells CS 29)) 3 #[.int .i64 (-1)]).cell 0
    rw [show (w.alloc (.cells CS 29)).heap.size = w.heap.size + 1 by simp] at h9
    exact h9
  have HREP := Lib.hid (repeat_any _ (w.heap.size + 1) 0 (-1) (m + 1) (by omega) hone)
  push_cast at HREP
  have HB0 := Lib.hid hb0
  have HX0 := Lib.hid hx0
  clear hb0 hx0 hone
  subst hCS
  go_enter Try.func50, Try.ntmps50
  go_upto_region 1 with (fail)
  go_upto_region 2 with (go_at_call 78; refine HREP.out.mono ?_; rintro e w2 ⟨gm, rfl, hgm, hb2, hnu⟩; have HB2 := Lib.hid (bt HB0.out (by first | (simp; done) | (simp; omega)) hb2); have HX2 := Lib.hid (HX0.out.below hb2 (by first | (simp; done) | (simp; omega))); have HNU := Lib.hid hnu; clear hb2 hnu)
  have hgm2 : w.heap.size ≤ gm := by simp at hgm; omega
  have hgl := Blk.lt HNU.out
  have hNA : Nums (w2.alloc (.cells #[.slice (some ⟨gm, 0, none⟩) (m + 1) (m + 1)] 92)) gm (List.replicate (m + 1) (-1)) := Blk.alloc HNU.out _
  have hc0 := hNA.cell (i := 0) (x := -1) (by simp)
  have hf0 := Blk.frozen hNA 0
  clear hNA
  have HS0 : Hid (LitS w (((w2.alloc (.cells #[.slice (some ⟨gm, 0, none⟩) (m + 1) (m + 1)] 92)).setCell ⟨gm, 0, none⟩ (.int .i64 0)).alloc (.cells #[.int .i64 0] 3)) w.heap.size gm w2.heap.size (w2.heap.size + 1) #[.int .i64 m, .slice AI nI cI, .slice AL nL cL, Vo, Vb, Vc, Vj, Vf, .slice AA nA cA, Vs, Vt] (numF [] (0, lit0 C))) := Lib.hid (by
    have e0 : numF [] (0, lit0 C) = (0, lit0 C) := rfl
    have el : (lit0 C).length = m + 1 := by rw [HL0.out]; simp
    rw [e0]
    have hbm := Blk.new w2 92 #[.slice (some ⟨gm, 0, none⟩) (m + 1) (m + 1)]
    have hbl := Blk.new ((w2.alloc (.cells #[.slice (some ⟨gm, 0, none⟩) (m + 1) (m + 1)] 92)).setCell ⟨gm, 0, none⟩ (.int .i64 0)) 3 #[.int .i64 0]
    rw [show ((w2.alloc (.cells #[.slice (some ⟨gm, 0, none⟩) (m + 1) (m + 1)] 92)).setCell ⟨gm, 0, none⟩ (.int .i64 0)).heap.size = w2.heap.size + 1 by simp [World.setCell]] at hbl
    have hsz := HB2.out.size
    have hxg : w.heap.size ≠ gm := HX2.out.ne_ HNU.out (by decide)
    have hnn : Nums _ gm ((List.replicate (m + 1) (-1)).set 0 0) := (Blk.alloc (Nums.set_ (Blk.alloc HNU.out (.cells #[.slice (some ⟨gm, 0, none⟩) (m + 1) (m + 1)] 92)) 0 0) (.cells #[.int .i64 0] 3))
    refine ⟨((HB2.out.alloc hsz _).setCell (by show w.heap.size ≤ gm; omega) _).alloc (by simp [World.setCell]; omega) _, Blk.alloc (Blk.far (HX2.out.alloc _) hxg _) _, hbl, ?_, ?_⟩
    · show Blk _ _ _ #[.slice (some ⟨gm, 0, none⟩) (lit0 C).length (lit0 C).length]
      rw [el]
      exact Blk.alloc (Blk.far hbm (by show w2.heap.size ≠ gm; omega) _) _
    · show Nums _ gm (lit0 C)
      rw [HL0.out]
      exact hnn)
  have HSB : Hid (LitS w (((w2.setCell ⟨gm, 0, none⟩ (.int .i64 0)).alloc (.cells #[.slice (some ⟨gm, 0, none⟩) (m + 1) (m + 1)] 92)).alloc (.cells #[.int .i64 0] 3)) w.heap.size gm w2.heap.size (w2.heap.size + 1) #[.int .i64 m, .slice AI nI cI, .slice AL nL cL, Vo, Vb, Vc, Vj, Vf, .slice AA nA cA, Vs, Vt] (numF [] (0, lit0 C))) := Lib.hid (by
    have e0 : numF [] (0, lit0 C) = (0, lit0 C) := rfl
    have el : (lit0 C).length = m + 1 := by rw [HL0.out]; simp
    have hs2 : (w2.setCell ⟨gm, 0, none⟩ (.int .i64 0)).heap.size = w2.heap.size := by simp [World.setCell]
    rw [e0]
    have hbm := Blk.new (w2.setCell ⟨gm, 0, none⟩ (.int .i64 0)) 92 #[.slice (some ⟨gm, 0, none⟩) (m + 1) (m + 1)]
    have hbl := Blk.new ((w2.setCell ⟨gm, 0, none⟩ (.int .i64 0)).alloc (.cells #[.slice (some ⟨gm, 0, none⟩) (m + 1) (m + 1)] 92)) 3 #[.int .i64 0]
    rw [hs2] at hbm
    rw [show ((w2.setCell ⟨gm, 0, none⟩ (.int .i64 0)).alloc (.cells #[.slice (some ⟨gm, 0, none⟩) (m + 1) (m + 1)] 92)).heap.size = w2.heap.size + 1 by simp [World.setCell]] at hbl
    have hsz := HB2.out.size
    have hnn : Nums _ gm ((List.replicate (m + 1) (-1)).set 0 0) := (Blk.alloc (Blk.alloc (HNU.out.set_ 0 0) (.cells #[.slice (some ⟨gm, 0, none⟩) (m + 1) (m + 1)] 92)) (.cells #[.int .i64 0] 3))
    refine ⟨((HB2.out.setCell (by show w.heap.size ≤ gm; omega) _).alloc (by rw [hs2]; omega) _).alloc (by simp [World.setCell]; omega) _, Blk.alloc (Blk.alloc (Blk.far HX2.out (by show w.heap.size ≠ gm; have := HX2.out.ne_ HNU.out (by decide); exact this) _) _) _, hbl, ?_, ?_⟩
    · show Blk _ _ _ #[.slice (some ⟨gm, 0, none⟩) (lit0 C).length (lit0 C).length]
      rw [el]
      exact hbm.alloc _
    · show Nums _ gm (lit0 C)
      rw [HL0.out]
      exact hnn)
  go_wp2
  generalize hbm : w2.heap.size = bm at *
  obtain ⟨bl, hbl⟩ : ∃ bl, bm + 1 = bl := ⟨_, rfl⟩
  rw [hbl] at HS0 HSB ⊢
  clear HNU HX2 HB2 HL0 HREP HB0 HX0 hc0 hf0
  go_loopg [28] mI (fun k j wx => ∃ q : Nat, q ≤ mI ∧ k = mI - q ∧ j = .int .i64 q ∧ LitS w wx w.heap.size gm bm bl #[.int .i64 m, .slice AI nI cI, .slice AL nL cL, Vo, Vb, Vc, Vj, Vf, .slice AA nA cA, Vs, Vt] (numF ((selF id s C.inputs).take q) (0, lit0 C)))
  case atStart => exact ⟨0, Nat.zero_le _, rfl, rfl, by first | exact HS0.out | exact HSB.out | simpa using HS0.out⟩
  case round =>
    obtain ⟨q, hq, hgk, rfl, hst⟩ := hrel
    subst hgk
    clear HS0
    have HST := Lib.hid hst
    have bx := hst.box
    have x1 := bx.cell 1
    simp only [List.getElem?_toArray, List.getElem?_cons_zero, List.getElem?_cons_succ] at x1
    have xm := hst.mp.cell 0
    simp only [List.getElem?_toArray, List.getElem?_cons_zero] at xm
    rw [(HLEN.out ((selF id s C.inputs).take q)).1] at xm
    clear bx
    by_cases hlt : q < mI
    · obtain ⟨iz, hiz⟩ : ∃ iz, (numsF s C.inputs 0)[q]? = some iz := ⟨_, List.getElem?_eq_getElem (by rw [HmI.out]; exact hlt)⟩
      obtain ⟨b2, off2, e2, hb2, hcell2⟩ := HRI.out q iz hiz
      subst e2
      have g0 := (HST.out.below.cell (p := ⟨b2, off2 + (q * 1 + 0), none⟩) hb2).trans (hcell2 0 _ rfl)
      simp only [Nat.mul_one, Nat.add_zero] at g0
      obtain ⟨jx, z, ejx, hjx, hsel⟩ := selF_get (f := id) (xs := C.inputs) (by rw [List.map_id]; exact hiz)
      rw [Nat.zero_add] at ejx
      subst ejx
      have hjn : jx < nI := by have := (List.getElem?_eq_some_iff.1 hjx).1; rw [HnI.out] at this; exact this
      obtain ⟨l, hlz⟩ : ∃ l, z = l := ⟨_, rfl⟩
      have hl : ((selF id s C.inputs))[q]? = some l := by rw [← hlz]; exact hsel
      obtain ⟨b, off, e, hb, hcell⟩ := HI.out jx z hjx
      subst e
      have h0 := (HST.out.below.cell (p := ⟨b, off + (jx * 1 + 0), none⟩) hb).trans (hcell 0 _ rfl)
      rw [hlz] at h0
      simp only [Nat.add_zero, Nat.mul_one] at h0
      obtain ⟨hl0, hl1⟩ := HFI.out z (List.mem_of_getElem? hjx)
      rw [hlz] at hl0 hl1
      have HP := Lib.hid (take_more hl)
      have hlen1 := (HLEN.out ((selF id s C.inputs).take q)).1
      have hlast := (HLEN.out ((selF id s C.inputs).take q)).2
      obtain ⟨st, hst1⟩ : ∃ st, numF ((selF id s C.inputs).take q) (0, lit0 C) = st := ⟨_, rfl⟩
      rw [hst1] at hlen1 hlast hst
      have HS1 := Lib.hid hst1
      have hql : ((selF id s C.inputs).take q).length ≤ 60000 := by
        simp only [List.length_take]
        have := HSZ.out
        omega
      have HC1 := Lib.hid (numberC_any w wr w.heap.size gm bm bl _ st l hst (by omega) hl0 (by rw [hlen1]; omega) (by rw [hlen1]; omega) (by omega) (by omega))
      have hk0 : (0 : Int) ≤ (jx : Int) := by omega
      have hk1 : (jx : Int) < (nI : Int) := by omega
      have hk2 : (0 : Int) ≤ (q : Int) := by omega
      have hk3 : (q : Int) < (mI : Int) := by omega
      clear hst hl hlen1 hlast hst1 hql hcell hcell2 hjx hsel hiz hlz
      go_wp2_with (go_at_call 83; refine HC1.out.mono ?_; rintro e w5 ⟨rfl, rfl⟩)
      go_roundg (mI - (q + 1))
      case measure => omega
      case rel =>
        refine ⟨q + 1, by omega, rfl, by go_num, ?_⟩
        rw [HP.out]
        have := HST.out
        exact this.step (by omega) (by omega) (by rw [HS1.out])
    · have hqe : mI = q := by omega
      subst hqe
      have HS0 : Hid (LitS w wr w.heap.size gm bm bl #[.int .i64 m, .slice AI nI cI, .slice AL nL cL, Vo, Vb, Vc, Vj, Vf, .slice AA nA cA, Vs, Vt] (numF ((selF id s C.inputs)) (0, lit0 C))) := Lib.hid (by
        have := HST.out
        rwa [List.take_of_length_le (by rw [HSmI.out]; exact Nat.le_refl _)] at this)
      clear hst hlt hq HST
      go_wp2
      go_loopg [42] mL (fun k j wx => ∃ q : Nat, q ≤ mL ∧ k = mL - q ∧ j = .int .i64 q ∧ LitS w wx w.heap.size gm bm bl #[.int .i64 m, .slice AI nI cI, .slice AL nL cL, Vo, Vb, Vc, Vj, Vf, .slice AA nA cA, Vs, Vt] (numF (selF id s C.inputs ++ ((selF (·.1) s C.latches).map (·.1)).take q) (0, lit0 C)))
      case atStart => exact ⟨0, Nat.zero_le _, rfl, rfl, by first | exact HS0.out | exact HSB.out | simpa using HS0.out⟩
      case round =>
        obtain ⟨q, hq, hgk, rfl, hst⟩ := hrel
        subst hgk
        clear HS0
        have HST := Lib.hid hst
        have bx := hst.box
        have x2 := bx.cell 2
        simp only [List.getElem?_toArray, List.getElem?_cons_zero, List.getElem?_cons_succ] at x2
        have xm := hst.mp.cell 0
        simp only [List.getElem?_toArray, List.getElem?_cons_zero] at xm
        rw [(HLEN.out (selF id s C.inputs ++ ((selF (·.1) s C.latches).map (·.1)).take q)).1] at xm
        clear bx
        by_cases hlt : q < mL
        · obtain ⟨iz, hiz⟩ : ∃ iz, (numsF s (C.latches.map (·.1)) 0)[q]? = some iz := ⟨_, List.getElem?_eq_getElem (by rw [HmL.out]; exact hlt)⟩
          obtain ⟨b2, off2, e2, hb2, hcell2⟩ := HRL.out q iz hiz
          subst e2
          have g0 := (HST.out.below.cell (p := ⟨b2, off2 + (q * 1 + 0), none⟩) hb2).trans (hcell2 0 _ rfl)
          simp only [Nat.mul_one, Nat.add_zero] at g0
          obtain ⟨jx, z, ejx, hjx, hsel⟩ := selF_get (f := (·.1)) (xs := C.latches) (by exact hiz)
          rw [Nat.zero_add] at ejx
          subst ejx
          have hjn : jx < nL := by have := (List.getElem?_eq_some_iff.1 hjx).1; rw [HnL.out] at this; exact this
          obtain ⟨l, hlz⟩ : ∃ l, z.1 = l := ⟨_, rfl⟩
          have hl : (((selF (·.1) s C.latches).map (·.1)))[q]? = some l := by rw [List.getElem?_map, hsel, ← hlz]; rfl
          obtain ⟨b, off, e, hb, hcell⟩ := HL.out jx z hjx
          subst e
          have h0 := (HST.out.below.cell (p := ⟨b, off + (jx * 3 + 0), none⟩) hb).trans (hcell 0 _ rfl)
          rw [hlz] at h0
          simp only [Nat.add_zero] at h0
          obtain ⟨hl0, hl1⟩ := HFL.out z (List.mem_of_getElem? hjx)
          rw [hlz] at hl0 hl1
          have HP := Lib.hid (take_more hl)
          have hlen1 := (HLEN.out (selF id s C.inputs ++ ((selF (·.1) s C.latches).map (·.1)).take q)).1
          have hlast := (HLEN.out (selF id s C.inputs ++ ((selF (·.1) s C.latches).map (·.1)).take q)).2
          obtain ⟨st, hst1⟩ : ∃ st, numF (selF id s C.inputs ++ ((selF (·.1) s C.latches).map (·.1)).take q) (0, lit0 C) = st := ⟨_, rfl⟩
          rw [hst1] at hlen1 hlast hst
          have HS1 := Lib.hid hst1
          have hql : (selF id s C.inputs ++ ((selF (·.1) s C.latches).map (·.1)).take q).length ≤ 60000 := by
            simp only [List.length_append, List.length_take, List.length_map]
            have := HSZ.out
            omega
          have HC1 := Lib.hid (numberC_any w wr w.heap.size gm bm bl _ st l hst (by omega) hl0 (by rw [hlen1]; omega) (by rw [hlen1]; omega) (by omega) (by omega))
          have hk0 : (0 : Int) ≤ (jx : Int) := by omega
          have hk1 : (jx : Int) < (nL : Int) := by omega
          have hk2 : (0 : Int) ≤ (q : Int) := by omega
          have hk3 : (q : Int) < (mL : Int) := by omega
          clear hst hl hlen1 hlast hst1 hql hcell hcell2 hjx hsel hiz hlz
          go_wp2_with (go_at_call 83; refine HC1.out.mono ?_; rintro e w5 ⟨rfl, rfl⟩)
          go_roundg (mL - (q + 1))
          case measure => omega
          case rel =>
            refine ⟨q + 1, by omega, rfl, by go_num, ?_⟩
            rw [HP.out, ← List.append_assoc]
            have := HST.out
            exact this.step (by omega) (by omega) (by rw [HS1.out])
        · have hqe : mL = q := by omega
          subst hqe
          have HS0 : Hid (LitS w wr w.heap.size gm bm bl #[.int .i64 m, .slice AI nI cI, .slice AL nL cL, Vo, Vb, Vc, Vj, Vf, .slice AA nA cA, Vs, Vt] (numF (selF id s C.inputs ++ ((selF (·.1) s C.latches).map (·.1))) (0, lit0 C))) := Lib.hid (by
            have := HST.out
            rwa [List.take_of_length_le (by rw [List.length_map]; rw [HSmL.out]; exact Nat.le_refl _)] at this)
          clear hst hlt hq HST
          go_wp2
          go_loopg [57] mA (fun k j wx => ∃ q : Nat, q ≤ mA ∧ k = mA - q ∧ j = .int .i64 q ∧ LitS w wx w.heap.size gm bm bl #[.int .i64 m, .slice AI nI cI, .slice AL nL cL, Vo, Vb, Vc, Vj, Vf, .slice AA nA cA, Vs, Vt] (numF (selF id s C.inputs ++ (selF (·.1) s C.latches).map (·.1) ++ ((selF (·.1) s C.ands).map (·.1)).take q) (0, lit0 C)))
          case atStart => exact ⟨0, Nat.zero_le _, rfl, rfl, by first | exact HS0.out | exact HSB.out | simpa using HS0.out⟩
          case round =>
            obtain ⟨q, hq, hgk, rfl, hst⟩ := hrel
            subst hgk
            clear HS0
            have HST := Lib.hid hst
            have bx := hst.box
            have x8 := bx.cell 8
            simp only [List.getElem?_toArray, List.getElem?_cons_zero, List.getElem?_cons_succ] at x8
            have xm := hst.mp.cell 0
            simp only [List.getElem?_toArray, List.getElem?_cons_zero] at xm
            rw [(HLEN.out (selF id s C.inputs ++ (selF (·.1) s C.latches).map (·.1) ++ ((selF (·.1) s C.ands).map (·.1)).take q)).1] at xm
            clear bx
            by_cases hlt : q < mA
            · obtain ⟨iz, hiz⟩ : ∃ iz, (numsF s (C.ands.map (·.1)) 0)[q]? = some iz := ⟨_, List.getElem?_eq_getElem (by rw [HmA.out]; exact hlt)⟩
              obtain ⟨b2, off2, e2, hb2, hcell2⟩ := HRA.out q iz hiz
              subst e2
              have g0 := (HST.out.below.cell (p := ⟨b2, off2 + (q * 1 + 0), none⟩) hb2).trans (hcell2 0 _ rfl)
              simp only [Nat.mul_one, Nat.add_zero] at g0
              obtain ⟨jx, z, ejx, hjx, hsel⟩ := selF_get (f := (·.1)) (xs := C.ands) (by exact hiz)
              rw [Nat.zero_add] at ejx
              subst ejx
              have hjn : jx < nA := by have := (List.getElem?_eq_some_iff.1 hjx).1; rw [HnA.out] at this; exact this
              obtain ⟨l, hlz⟩ : ∃ l, z.1 = l := ⟨_, rfl⟩
              have hl : (((selF (·.1) s C.ands).map (·.1)))[q]? = some l := by rw [List.getElem?_map, hsel, ← hlz]; rfl
              obtain ⟨b, off, e, hb, hcell⟩ := HA.out jx z hjx
              subst e
              have h0 := (HST.out.below.cell (p := ⟨b, off + (jx * 3 + 0), none⟩) hb).trans (hcell 0 _ rfl)
              rw [hlz] at h0
              simp only [Nat.add_zero] at h0
              obtain ⟨hl0, hl1⟩ := HFA.out z (List.mem_of_getElem? hjx)
              rw [hlz] at hl0 hl1
              have HP := Lib.hid (take_more hl)
              have hlen1 := (HLEN.out (selF id s C.inputs ++ (selF (·.1) s C.latches).map (·.1) ++ ((selF (·.1) s C.ands).map (·.1)).take q)).1
              have hlast := (HLEN.out (selF id s C.inputs ++ (selF (·.1) s C.latches).map (·.1) ++ ((selF (·.1) s C.ands).map (·.1)).take q)).2
              obtain ⟨st, hst1⟩ : ∃ st, numF (selF id s C.inputs ++ (selF (·.1) s C.latches).map (·.1) ++ ((selF (·.1) s C.ands).map (·.1)).take q) (0, lit0 C) = st := ⟨_, rfl⟩
              rw [hst1] at hlen1 hlast hst
              have HS1 := Lib.hid hst1
              have hql : (selF id s C.inputs ++ (selF (·.1) s C.latches).map (·.1) ++ ((selF (·.1) s C.ands).map (·.1)).take q).length ≤ 60000 := by
                simp only [List.length_append, List.length_take, List.length_map]
                have := HSZ.out
                omega
              have HC1 := Lib.hid (numberC_any w wr w.heap.size gm bm bl _ st l hst (by omega) hl0 (by rw [hlen1]; omega) (by rw [hlen1]; omega) (by omega) (by omega))
              have hk0 : (0 : Int) ≤ (jx : Int) := by omega
              have hk1 : (jx : Int) < (nA : Int) := by omega
              have hk2 : (0 : Int) ≤ (q : Int) := by omega
              have hk3 : (q : Int) < (mA : Int) := by omega
              clear hst hl hlen1 hlast hst1 hql hcell hcell2 hjx hsel hiz hlz
              go_wp2_with (go_at_call 83; refine HC1.out.mono ?_; rintro e w5 ⟨rfl, rfl⟩)
              go_roundg (mA - (q + 1))
              case measure => omega
              case rel =>
                refine ⟨q + 1, by omega, rfl, by go_num, ?_⟩
                rw [HP.out, ← List.append_assoc]
                have := HST.out
                exact this.step (by omega) (by omega) (by rw [HS1.out])
            · have hqe : mA = q := by omega
              subst hqe
              have HS0 : Hid (LitS w wr w.heap.size gm bm bl #[.int .i64 m, .slice AI nI cI, .slice AL nL cL, Vo, Vb, Vc, Vj, Vf, .slice AA nA cA, Vs, Vt] (numF (selF id s C.inputs ++ (selF (·.1) s C.latches).map (·.1) ++ ((selF (·.1) s C.ands).map (·.1))) (0, lit0 C))) := Lib.hid (by
                have := HST.out
                rwa [List.take_of_length_le (by rw [List.length_map]; rw [HSmA.out]; exact Nat.le_refl _)] at this)
              clear hst hlt hq HST
              go_wp2
              go_ret
              exact ⟨gm, rfl, hgm2, HS0.out.below, by rw [HLM.out]; exact HS0.out.nums⟩
end Go.Proofs.Ytagffmalmkcboaa
