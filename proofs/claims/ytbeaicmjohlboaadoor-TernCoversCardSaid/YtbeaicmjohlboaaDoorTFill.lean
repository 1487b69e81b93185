/- Tern: the statements' own filled: a row as truths that it covers. -/
import Derived.Test.YtbeaicmjohlboaaDoorTrnB
import Derived.Test.YtbeaicmjohlboaaDoorSimK
namespace Go.Proofs.YtbeaicmjohlboaaDoor
open Go.RowKit

set_option maxHeartbeats 8000000 in
set_option maxRecDepth 100000 in
theorem filled_any (w : World) (v : Value) (L : List Int) (a : Int) (hv : RowE 1 encI w v L) (h3 : Row3 L) (hl : L.length ≤ 16384) (ha : 0 ≤ a ∧ a ≤ 18446744073709551615) :
    Calls Tryd.prog 26 #[v, .int .u64 a] w fun e w' => Below w.heap.size w w' ∧ ∃ g st, e = .returned (.slice (some ⟨g, 0, none⟩) L.length L.length) ∧ w.heap.size ≤ g ∧ Tab w' g st ∧ st.length = L.length ∧ Cov3 L st := by
  obtain ⟨vA, vc, ev, _, _, hrun⟩ := hv
  subst ev
  have HRUN := Lib.hid hrun
  have HR := Lib.hid h3
  obtain ⟨n, hn⟩ : ∃ n, L.length = n := ⟨_, rfl⟩
  rw [hn] at hl ⊢
  have HN := Lib.hid hn
  have hmk := make_bools n (by omega)
  have HS0 : Hid (Tab (w.alloc (.cells (madeCells #[Value.bool false] n) 4)) w.heap.size (List.replicate n false) ∧ Below w.heap.size w (w.alloc (.cells (madeCells #[Value.bool false] n) 4))) := Lib.hid ⟨(by
      unfold Tab
      rw [← made_bools]
      exact Blk.new w 4 _), (Below.refl _ _).alloc (Nat.le_refl _) _⟩
  obtain ⟨ha0, ha1⟩ := ha
  clear hrun hn h3
  go_enter Tryd.func26, Tryd.ntmps26
  go_wp2
  go_loopg [12] n (fun j iv wx => ∃ q : Nat, q ≤ n ∧ j = n - q ∧ iv = .int .i64 q ∧ ∃ st : List Bool, st.length = n ∧ Tab wx w.heap.size st ∧ Below w.heap.size w wx ∧ ∀ k, k < q → Le3 (b2i (st.getD k false)) (L.getD k 0))
  case atStart => exact ⟨0, Nat.zero_le _, rfl, rfl, _, List.length_replicate, HS0.out.1, HS0.out.2, fun k hk => absurd hk (by omega)⟩
  case round =>
    obtain ⟨q, hq, hgk, rfl, st, hst, htab, hbw, hall⟩ := hrel
    subst hgk
    clear HS0
    have HST := Lib.hid hst
    have HTAB := Lib.hid htab
    have HBW := Lib.hid hbw
    have HALL := Lib.hid hall
    by_cases hlt : q < n
    · obtain ⟨x, hx⟩ : ∃ x, L[q]? = some x := ⟨_, List.getElem?_eq_getElem (by rw [HN.out]; exact hlt)⟩
      obtain ⟨b, off, e, hb, hcell⟩ := HRUN.out q x hx
      subst e
      have k0 := (hbw.cell (p := ⟨b, off + (q * 1 + 0), none⟩) hb).trans (hcell 0 _ rfl)
      simp only [Nat.mul_one, Nat.add_zero] at k0
      have hv3 : V3 x := HR.out x (List.mem_of_getElem? hx)
      have HXD : Hid (L.getD q 0 = x) := Lib.hid (by rw [List.getD_eq_getElem?_getD, hx]; rfl)
      have z1 := Tab.cell htab (getD_bool (t := st) (k := q) (by omega))
      have z2 := Blk.frozen htab q
      have z3 := Blk.lt htab
      have HNEXT : Hid (∀ b : Bool, Le3 (b2i b) x → ∃ st', st'.length = n ∧ Tab (wr.setCell ⟨w.heap.size, q, none⟩ (.bool b)) w.heap.size st' ∧ Below w.heap.size w (wr.setCell ⟨w.heap.size, q, none⟩ (.bool b)) ∧ ∀ k, k < q + 1 → Le3 (b2i (st'.getD k false)) (L.getD k 0)) := Lib.hid (fun b hb => ⟨st.set q b, by rw [List.length_set]; exact HST.out, Tab.set_ HTAB.out q b, HBW.out.setCell (by simp) _, fun k hk => by
        by_cases e : k = q
        · subst e
          rw [HXD.out, show (st.set k b).getD k false = b by simp [List.getD, HST.out, hlt]]
          exact hb
        · rw [show (st.set q b).getD k false = st.getD k false by simp [List.getD, Ne.symm e]]
          exact HALL.out k (by omega)⟩)
      have hqi : (q : Int) < (n : Int) := by omega
      have hqi0 : (0 : Int) ≤ (q : Int) := by omega
      have hwq : IntKind.u64.wrap (q : Int) = (q : Int) := by simp [IntKind.wrap, IntKind.bits, IntKind.signed]; omega
      have hrm : (q : Int).tmod 64 = (q : Int) % 64 := Int.tmod_eq_emod_of_nonneg hqi0
      have hr0 : 0 ≤ (q : Int) % 64 := by omega
      have hr1 : (q : Int) % 64 < 64 := by omega
      have hwr : IntKind.u64.wrap ((q : Int) % 64) = (q : Int) % 64 := by simp [IntKind.wrap, IntKind.bits, IntKind.signed]; omega
      clear hcell hx hst htab hbw hall
      rcases hv3 with h | h | h
      · subst h
        go_wp2
        go_roundg (n - (q + 1))
        case measure => omega
        case rel => exact ⟨q + 1, by omega, rfl, by go_num, HNEXT.out false (.inl rfl)⟩
      · subst h
        go_wp2
        go_roundg (n - (q + 1))
        case measure => omega
        case rel => exact ⟨q + 1, by omega, rfl, by go_num, HNEXT.out true (.inl rfl)⟩
      · subst h
        go_wp2
        go_roundg (n - (q + 1))
        case measure => omega
        case rel => exact ⟨q + 1, by omega, rfl, by go_num, HNEXT.out _ (.inr rfl)⟩
    · have hqe : q = n := by omega
      have HFIN : Hid (Cov3 L st) := Lib.hid ⟨by rw [HN.out, HST.out], fun k hk => HALL.out k (by rw [HN.out] at hk; omega)⟩
      have hqi : ¬ (q : Int) < (n : Int) := by omega
      clear hst htab hbw hall
      go_wp2
      go_ret
      first | exact ⟨HBW.out, _, st, rfl, Nat.le_refl _, HTAB.out, HST.out, HFIN.out⟩ | exact ⟨HBW.out, _, rfl, Nat.le_refl _, st, HTAB.out, HST.out, HFIN.out⟩ | exact ⟨HBW.out, _, rfl, st, Nat.le_refl _, HTAB.out, HST.out, HFIN.out⟩
end Go.Proofs.YtbeaicmjohlboaaDoor
