/- Renumber's own function that leads a literal along the map. -/
import Derived.Test.YtfcjdfjobneeeaaRight
import Derived.Test.YtfcjdfjobneeeaaNewm
import Derived.Test.YtfcjdfjobneeeaaCopy
namespace Go.Proofs.Ytfcjdfjobneeeaa
open Go.RowKit

theorem or_low {x b : Nat} (hx : x % 2 = 0) (hb : b < 2) : x ||| b = x + b := by
  have e : x = 2 ^ 1 * (x / 2) := by omega
  rw [e]
  exact (Nat.two_pow_add_eq_or_of_lt (i := 1) hb _).symm
theorem or_lit {x b : Int} (h0 : 0 ≤ x) (h1 : x % 2 = 0) (h2 : x ≤ 1000000) (hb0 : 0 ≤ b) (hb1 : b < 2) : bits .or .i64 x b = x + b := by
  obtain ⟨n, rfl⟩ : ∃ n : Nat, x = (n : Int) := ⟨x.toNat, by omega⟩
  obtain ⟨k, rfl⟩ : ∃ k : Nat, b = (k : Int) := ⟨b.toNat, by omega⟩
  have e := or_low (x := n) (b := k) (by omega) (by omega)
  have hn : n < 2 ^ 64 := by omega
  have hk : k < 2 ^ 64 := by omega
  show IntKind.i64.wrap ((BitVec.ofInt 64 (n : Int) ||| BitVec.ofInt 64 (k : Int)).toNat : Int) = _
  rw [BitVec.toNat_or, BitVec.ofInt_natCast, BitVec.ofInt_natCast, BitVec.toNat_ofNat, BitVec.toNat_ofNat, Nat.mod_eq_of_lt hn, Nat.mod_eq_of_lt hk, e]
  simp [IntKind.wrap, IntKind.bits, IntKind.signed]
  omega
set_option maxHeartbeats 400000 in
set_option maxRecDepth 100000 in
theorem move_any (w : World) (bm gm : Nat) (M : List Int) (l : Int) (hbm : Blk w bm 22 #[.slice (some ⟨gm, 0, none⟩) M.length M.length]) (hg : Nums w gm M) (h0 : 0 ≤ l) (hl : l / 2 < (M.length : Int)) (hM : M.length ≤ 100000) (he : ∀ x ∈ M, 0 ≤ x ∧ x % 2 = 0 ∧ x ≤ 1000000) :
    Calls Try.prog 47 #[.int .i64 l, .pointer (some ⟨bm, 0, none⟩)] w fun e w' => e = .returned (.int .i64 (M.getD (l / 2).toNat 0 + l % 2)) ∧ w' = w := by
  have c0 := hbm.cell 0
  simp only [List.getElem?_toArray, List.getElem?_cons_zero] at c0
  have hk : (l / 2).toNat < M.length := by omega
  have hx := getD_some hk (d := 0)
  have c1 := hg.cell hx
  obtain ⟨x, hxe⟩ : ∃ x, M.getD (l / 2).toNat 0 = x := ⟨_, rfl⟩
  obtain ⟨x0, x1, x2⟩ := he _ (List.mem_of_getElem? hx)
  rw [hxe] at c1 x0 x1 x2
  rw [hxe]
  have hq := tdiv_nn (b := 2) h0
  have hq0 : 0 ≤ l / 2 := by omega
  clear hbm hg hx hk hxe he
  go_enter Try.func47, Try.ntmps47
  go_wp2
  go_ret
  refine ⟨ret_int ?_, rfl⟩
  exact or_lit x0 x1 x2 (by omega) (by omega)
end Go.Proofs.Ytfcjdfjobneeeaa
