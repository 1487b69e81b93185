/- The contract of slices.Repeat at numbers. -/
import Derived.Test.YtagffmalmkcboaaUses
import Derived.Laws.CopyOwn
import Derived.Test.YtagffmalmkcboaaMul
import Derived.Test.YtagffmalmkcboaaTrnF
namespace Go.Proofs.Ytagffmalmkcboaa
open Go.RowKit

def repF (x : Int) (k n : Nat) : List Int := List.replicate n x ++ List.replicate (k - n) 0
theorem repF_len (x : Int) {k n : Nat} (h : n ≤ k) : (repF x k n).length = k := by simp [repF]; omega
theorem repF_splice (x : Int) {k n c : Nat} (h : n + c ≤ k) : splice ((repF x k n).map (Value.int .i64)) n (List.replicate c (.int .i64 x)) = (repF x k (n + c)).map (Value.int .i64) := by
  unfold splice repF
  simp only [List.map_append, List.map_replicate, List.length_replicate]
  rw [List.take_left' (by simp), List.drop_append, List.drop_of_length_le (by simp)]
  simp only [List.length_replicate, List.nil_append, List.drop_replicate]
  rw [← List.append_assoc, List.replicate_append_replicate, show k - n - (n + c - n) = k - (n + c) by omega]
theorem repF_cell {w : World} {g : Nat} {x : Int} {k n j : Nat} (h : Nums w g (repF x k n)) (hj : j < n) : w.cell? ⟨g, j, none⟩ = some (.int .i64 x) := by
  have h1 := Blk.cell h j
  rw [List.getElem?_toArray] at h1
  rw [h1]
  unfold repF
  rw [List.map_append, List.getElem?_append_left (by simpa using hj)]
  simp [hj]

set_option maxHeartbeats 8000000 in
set_option maxRecDepth 100000 in
theorem repeat_any (w : World) (sa so : Nat) (x : Int) (k : Nat) (hk : k ≤ 20000) (hx : w.cell? ⟨sa, so, none⟩ = some (.int .i64 x)) :
    Calls Try.prog 78 #[.slice (some ⟨sa, so, none⟩) 1 1, .int .i64 k] w fun e w' => ∃ g, e = .returned (.slice (some ⟨g, 0, none⟩) k k) ∧ w.heap.size ≤ g ∧ Below w.heap.size w w' ∧ Nums w' g (List.replicate k x) := by
  have hmk := make_ints k (by omega)
  have HMUL : Hid (∀ wx, Calls Try.prog 98 #[.int .u64 1, .int .u64 k] wx fun e w' => e = .returned (.tuple #[.int .u64 0, .int .u64 k]) ∧ w' = wx) := Lib.hid (fun wx => by
    have h := Try.bits_Mul 1 k (by omega) (by omega) wx
    rw [show 1 * k / 18446744073709551616 = 0 by omega, show 1 * k % 18446744073709551616 = k by omega] at h
    exact h)
  have hk0 : (0 : Int) ≤ (k : Int) := by omega
  have hk1 : ¬ (k : Int) < 0 := by omega
  have hk2 : ¬ (9223372036854775807 : Int) < (k : Int) := by omega
  have hw1 : IntKind.u64.wrap (k : Int) = (k : Int) := by simp [IntKind.wrap, IntKind.bits, IntKind.signed]; omega
  have hw2 : IntKind.i64.wrap (k : Int) = (k : Int) := by simp [IntKind.wrap, IntKind.bits, IntKind.signed]; omega
  have hN1 : Nums (w.alloc (.cells (madeCells #[Value.int .i64 0] k) 3)) w.heap.size (repF x k 0) := by
    unfold repF Nums
    rw [List.replicate_zero, List.nil_append, Nat.sub_zero, ← made_ints]
    exact Blk.new w 3 _
  have HN1 := Lib.hid hN1
  have HB1 : Hid (Below w.heap.size w (w.alloc (.cells (madeCells #[Value.int .i64 0] k) 3))) := Lib.hid ((Below.refl _ _).alloc (Nat.le_refl _) _)
  have HX1 : Hid ((w.alloc (.cells (madeCells #[Value.int .i64 0] k) 3)).cell? ⟨sa, so, none⟩ = some (.int .i64 x)) := Lib.hid (by
    have hlt : sa < w.heap.size := by
      rcases Nat.lt_or_ge sa w.heap.size with h | h
      · exact h
      · simp [World.cell?, Array.getElem?_eq_none h] at hx
    exact (HB1.out.cell (p := ⟨sa, so, none⟩) hlt).trans hx)
  clear hx hN1
  go_enter Try.func78, Try.ntmps78
  go_upto_region 7 with (go_at_call 98; refine (HMUL.out _).mono ?_; rintro e w5 ⟨rfl, rfl⟩)
  obtain ⟨n0, hn0⟩ : ∃ n, min 1 k = n := ⟨_, rfl⟩
  have HN0 := Lib.hid hn0
  have hmin : (0 < k → 1 ≤ n0) ∧ n0 ≤ k ∧ n0 ≤ 1 := by omega
  clear hn0
  have HCS : Hid (∀ (W : World), W.cell? ⟨sa, so, none⟩ = some (.int .i64 x) → ∀ (j : Nat) (v : Value), (List.replicate n0 (Value.int .i64 x))[j]? = some v → W.cell? (Addr.add ⟨sa, so, none⟩ j) = some v) := Lib.hid (fun W hW j v hj => by
    rw [List.getElem?_replicate] at hj
    split at hj
    · rename_i h9
      injection hj with hj
      have : j = 0 := by omega
      subst this hj
      rw [add_none]
      exact hW
    · cases hj)
  go_wp2_with ((with_reducible show wpList _ _ _ _ _ _); refine wpList_copy_splice rfl (.tmp 31) (.tmp 32) 22 22 rfl 3 Try.underlying22 (by kernel_rfl) (some ⟨w5.heap.size, 0, none⟩) (some ⟨sa, so, none⟩) k k 1 1 rfl rfl w5.heap.size 0 ((repF x k 0).map (Value.int .i64)) 3 HN1.out (List.replicate n0 (.int .i64 x)) (by rw [List.length_replicate]; exact HN0.out.symm) (fun _ => ⟨rfl, _, rfl, HCS.out _ HX1.out⟩) (by rw [List.length_map, repF_len x (Nat.zero_le _), List.length_replicate]; omega) (fun v hv => by rw [List.mem_replicate] at hv; rw [hv.2]; rfl) w5.heap.size w5 HB1.out (Nat.le_refl _) ?_; intro w2 hn2 hb2; have HN2 := hn2; have HB2 := Lib.hid hb2; clear hn2 hb2)
  have HR0 : Hid (Nums w2 w5.heap.size (repF x k n0)) := Lib.hid (by
    have h9 := HN2.out
    rw [repF_splice x (by omega), Nat.zero_add] at h9
    exact h9)
  clear HN2 HCS HX1 HN1
  go_loopg [8] (k - n0) (fun j iv wx => ∃ n : Nat, n ≤ k ∧ (0 < k → 1 ≤ n) ∧ j = k - n ∧ iv = .int .i64 n ∧ Below w5.heap.size w5 wx ∧ Nums wx w5.heap.size (repF x k n))
  case atStart => exact ⟨n0, hmin.2.1, hmin.1, rfl, rfl, HB2.out, HR0.out⟩
  case round =>
    obtain ⟨n, hnk, hn1, hgk, rfl, hbl, hnu⟩ := hrel
    subst hgk
    clear HR0 HB2 hmin
    have HBL := Lib.hid hbl
    have HNU := Lib.hid hnu
    clear hbl hnu
    by_cases hlt : n < k
    · have hni : (n : Int) < (k : Int) := by omega
      have hn2 := hn1 (by omega)
      obtain ⟨c, hc⟩ : ∃ c, min n (k - n) = c := ⟨_, rfl⟩
      have hc1 : 1 ≤ c ∧ n + c ≤ k ∧ c ≤ n := by omega
      have HC := Lib.hid hc
      have hf0 : (0 : Int) ≤ (n : Int) := by omega
      have hf1 : (n : Int) ≤ (k : Int) := by omega
      have hf3 : ¬ k = n := by omega
      have hk9 : k ≤ 9223372036854775807 := by omega
      have HCS : Hid (∀ (j : Nat) (v : Value), (List.replicate c (Value.int .i64 x))[j]? = some v → wr.drew.cell? (Addr.add ⟨w5.heap.size, 0, none⟩ j) = some v) := Lib.hid (fun j v hj => by
        rw [List.getElem?_replicate] at hj
        split at hj
        · rename_i h9
          injection hj with hj
          subst hj
          rw [add_none, Nat.zero_add]
          exact repF_cell (Blk.drew HNU.out) (by omega)
        · cases hj)
      have HND := Lib.hid (Blk.drew HNU.out)
      have hnc : IntKind.i64.wrap ((n : Int) + (c : Int)) = (n : Int) + (c : Int) := by simp [IntKind.wrap, IntKind.bits, IntKind.signed]; omega
      have HBD := Lib.hid HBL.out.drew
      clear hc
      go_upto_region 9 with (fail)
      refine wp_region_T (by kernel_rfl) (fun _ => True) 10 ?_
      have hHeld : True := trivial
      refine wpAnyT_take (i := 0) (v := ?w0) rfl (by kernel_rfl) (fun _ _ _ h => h) (by rfl) hHeld ?k0 ?_
      case k0 => (intro w' hSw; (try dsimp only at hSw); go_simp; try with_reducible rfl)
      (try simp only [Act.put, List.setIfInBounds_toArray])
      refine wpAnyT_take (i := 1) (v := ?w1) rfl (by kernel_rfl) (fun _ _ _ h => h) (by rfl) hHeld ?k1 ?_
      case k1 => (intro w' hSw; (try dsimp only at hSw); go_simp; try with_reducible rfl)
      (try simp only [Act.put])
      refine wpAnyT_take (i := 2) (v := ?w2) rfl (by kernel_rfl) (fun _ _ _ h => h) (by rfl) hHeld ?k2 ?_
      case k2 => (intro w' hSw; (try dsimp only at hSw); go_simp; try with_reducible rfl)
      (try simp only [Act.put])
      refine wpAnyT_take (i := 3) (v := ?w3) rfl (by kernel_rfl) (fun _ _ _ h => h) (by rfl) hHeld ?k3 ?_
      case k3 => (intro w' hSw; (try dsimp only at hSw); go_simp; try with_reducible rfl)
      (try simp only [Act.put])
      refine wpAnyT_take (i := 4) (v := ?w4) rfl (by kernel_rfl) (fun _ _ _ h => h) (by rfl) hHeld ?k4 ?_
      case k4 => (intro w' hSw; (try dsimp only at hSw); go_simp; try with_reducible rfl)
      (try simp only [Act.put])
      refine wpAnyT_take (i := 5) (v := ?w5) rfl (by kernel_rfl) (fun _ _ _ h => h) (by rfl) hHeld ?k5 ?_
      case k5 => (intro w' hSw; (try dsimp only at hSw); go_simp; try with_reducible rfl)
      (try simp only [Act.put])
      refine wpAnyT_take (i := 6) (v := ?w6) rfl (by kernel_rfl) (fun _ _ _ h => h) (by rfl) hHeld ?k6 ?_
      case k6 => (intro w' hSw; (try dsimp only at hSw); go_simp; try with_reducible rfl)
      (try simp only [Act.put])
      refine wpAnyT_one (i := 7) rfl (by kernel_rfl) (fun K hK => ?_)
      refine step_copy_splice rfl (.tmp 41) (.tmp 44) 22 22 rfl 3 Try.underlying22 (by kernel_rfl) (some ⟨w5.heap.size, n, none⟩) (some ⟨w5.heap.size, 0, none⟩) (k - n) (k - n) n k (by first | rfl | (simp [Act.eval])) (by first | rfl | (simp [Act.eval])) w5.heap.size n ((repF x k n).map (Value.int .i64)) 3 HND.out (List.replicate c (.int .i64 x)) (by rw [List.length_replicate]; exact HC.out.symm) (fun _ => ⟨rfl, _, rfl, HCS.out⟩) (by rw [List.length_map, repF_len x hnk, List.length_replicate]; omega) (fun v hv => by rw [List.mem_replicate] at hv; rw [hv.2]; rfl) w5.heap.size w5 HBD.out (Nat.le_refl _) ?_
      intro w6 hn6 hb6
      have HB6 := Lib.hid hb6
      have HN6 : Hid (Nums w6 w5.heap.size (repF x k (n + c))) := Lib.hid (by
        have h9 := hn6.out
        rw [repF_splice x hc1.2.1] at h9
        exact h9)
      clear hn6 hb6
      rw [List.length_replicate]
      refine hK.out _ _ (fun _ => trivial) ?_
      clear hK K
      (try simp only [Act.put])
      refine wpAnyT_one (i := 8) rfl (by kernel_rfl) (fun K hK => ?_)
      go_simp
      refine hK.out _ _ (fun _ => trivial) ?_
      clear hK K
      (try simp only [Act.put, zA, zB, zC])
      refine wpAnyT_one (i := 9) rfl (by kernel_rfl) (fun K hK => ?_)
      go_simp
      refine hK.out _ _ (fun _ => trivial) ?_
      clear hK K
      (try simp only [Act.put, zA, zB, zC])
      refine wpAnyT_done (by kernel_rfl) ?_
      go_wp2
      go_roundg (k - (n + c))
      case measure => omega
      case rel => exact ⟨n + c, hc1.2.1, fun _ => by omega, rfl, by rw [Int.natCast_add], HB6.out, HN6.out⟩
    · have hni : ¬ (n : Int) < (k : Int) := by omega
      have hke : n = k := by omega
      have HE : Hid (Nums wr w5.heap.size (List.replicate k x)) := Lib.hid (by
        have h9 := HNU.out
        unfold repF at h9
        rw [hke, Nat.sub_self, List.replicate_zero, List.append_nil] at h9
        exact h9)
      clear hke hlt
      go_wp2
      go_ret
      exact ⟨w5.heap.size, rfl, Nat.le_refl _, HBL.out, HE.out⟩
end Go.Proofs.Ytagffmalmkcboaa
