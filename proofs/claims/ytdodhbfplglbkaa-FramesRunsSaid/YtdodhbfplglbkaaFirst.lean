/- The contract of firstRound: the first gate that comes round, as the way along all gates says. -/
import Derived.Test.YtdodhbfplglbkaaTarjW
import Derived.Laws.EntriesVeiled
namespace Go.Proofs.Ytdodhbfplglbkaa
open Go.RowKit

theorem alloc_size (w : World) (o : Obj) : (w.alloc o).heap.size = w.heap.size + 1 := by simp
theorem nums_of {w : World} {g : Nat} {cs : Array Value} {L : List Int} (h : Blk w g 3 cs) (e : cs = (L.map (Value.int .i64)).toArray) : Nums w g L := by subst e; exact h
def ts0 (n : Nat) : TS := { first := -1, count := 0, met := List.replicate n 0, opn := [] }
/-- The state behind the first k gates. -/
def tsK (uses : List (Int × Int)) (n : Nat) : Nat → TS
  | 0 => ts0 n
  | k + 1 => if (tsK uses n k).met.getD k 0 = 0 then (followF uses n (tsK uses n k) (k : Int)).1 else tsK uses n k
def firstF (uses : List (Int × Int)) : Int := (tsK uses uses.length uses.length).first
theorem ts0_inv (n : Nat) : TInv n (ts0 n) := by
  refine ⟨by simp [ts0], fun x hx => by simp [ts0] at hx, ?_, by simp [ts0]⟩
  have : (List.replicate n (0 : Int)).countP (· == 0) ≤ (List.replicate n (0 : Int)).length := List.countP_le_length
  simp only [List.length_replicate] at this
  show 0 + _ ≤ n
  simpa [ts0, unmet] using this
theorem unmet_le {n : Nat} {S : TS} (h : TInv n S) : unmet S ≤ n := by have := h.cnt; omega
theorem tsK_inv {uses : List (Int × Int)} {n : Nat} (hu : UsesOk n uses) : ∀ k, k ≤ n → TInv n (tsK uses n k)
  | 0, _ => ts0_inv n
  | k + 1, hk => by
    have ih := tsK_inv hu k (by omega)
    unfold tsK
    split
    · rename_i h0
      exact (follow_good hu n _ (k : Int) (unmet_le ih) ih (by omega) (by omega) (by rw [Int.toNat_natCast]; exact h0)).inv
    · exact ih
theorem tsK_new {uses : List (Int × Int)} {n k : Nat} (h : (tsK uses n k).met.getD k 0 = 0) : tsK uses n (k + 1) = (followF uses n (tsK uses n k) (k : Int)).1 := by rw [tsK, if_pos h]
theorem tsK_old {uses : List (Int × Int)} {n k : Nat} (h : ¬ (tsK uses n k).met.getD k 0 = 0) : tsK uses n (k + 1) = tsK uses n k := by rw [tsK, if_neg h]

set_option maxHeartbeats 2000000 in
set_option maxRecDepth 100000 in
theorem firstRound_any (w : World) (g : Nat) (uses : List (Int × Int)) (hp : Prs w g uses) (hu : UsesOk uses.length uses) (hn : uses.length ≤ 16384) :
    Calls Try.prog 88 #[.slice (some ⟨g, 0, none⟩) uses.length uses.length] w fun e w' => e = .returned (.int .i64 (firstF uses)) ∧ Below w.heap.size w w' := by
  have hg := Blk.lt hp
  have hmk := make_ints uses.length (by omega)
  have hF : firstF uses = (tsK uses uses.length uses.length).first := rfl
  have HFF := Lib.hid hF
  clear hF
  generalize hn' : uses.length = n at *
  have HN := Lib.hid hn'
  clear hn'
  have hK : (TK.mk w.heap.size (w.heap.size + 1) (w.heap.size + 1 + 1) (w.heap.size + 1 + 1 + 1) (w.heap.size + 1 + 1 + 1 + 1) (w.heap.size + 1 + 1 + 1 + 1 + 1) (w.heap.size + 1 + 1 + 1 + 1 + 1 + 1) g n).Ok w.heap.size := ⟨hg, Nat.le_refl _, by simp, by simp, by simp, by simp, by simp, by simp⟩
  have HK := Lib.hid hK
  have HP := Lib.hid hp
  have HU := Lib.hid hu
  clear hK hp hu
  go_enter Try.func88, Try.ntmps88
  go_wp2
  go_loopw [15] (fun i wr => ∃ k : Nat, k ≤ n ∧ i = .int .i64 k ∧ TSt w (TK.mk w.heap.size (w.heap.size + 1) (w.heap.size + 1 + 1) (w.heap.size + 1 + 1 + 1) (w.heap.size + 1 + 1 + 1 + 1) (w.heap.size + 1 + 1 + 1 + 1 + 1) (w.heap.size + 1 + 1 + 1 + 1 + 1 + 1) g n) uses wr (tsK uses n k)) (fun i _ => n - (intOf i).toNat)
  case atStart =>
    refine ⟨0, Nat.zero_le _, rfl, ?_⟩
    have a0 := (Below.refl w.heap.size w)
    have a1 := a0.alloc (by simp) (.cells #[.slice (some ⟨g, 0, none⟩) n n] 115)
    have a2 := a1.alloc (by simp; try omega) (.cells #[.int .i64 (-1)] 3)
    have a3 := a2.alloc (by simp; try omega) (.cells #[.int .i64 0] 3)
    have a4 := a3.alloc (by simp; try omega) (.cells (madeCells #[.int .i64 0] n) 3)
    have a5 := a4.alloc (by simp; try omega) (.cells #[.slice (some ⟨w.heap.size + 1 + 1 + 1, 0, none⟩) n n] 22)
    have a6 := a5.alloc (by simp; try omega) (.cells #[.slice none 0 0] 22)
    have a7 := a6.alloc (by simp; try omega) (.cells #[.func (.func 127) #[] (TK.mk w.heap.size (w.heap.size + 1) (w.heap.size + 1 + 1) (w.heap.size + 1 + 1 + 1) (w.heap.size + 1 + 1 + 1 + 1) (w.heap.size + 1 + 1 + 1 + 1 + 1) (w.heap.size + 1 + 1 + 1 + 1 + 1 + 1) g n).caps] 75)
    have b0 := (((((((Blk.new w 115 #[.slice (some ⟨g, 0, none⟩) n n]).alloc (.cells #[.int .i64 (-1)] 3)).alloc (.cells #[.int .i64 0] 3)).alloc (.cells (madeCells #[.int .i64 0] n) 3)).alloc (.cells #[.slice (some ⟨w.heap.size + 1 + 1 + 1, 0, none⟩) n n] 22)).alloc (.cells #[.slice none 0 0] 22)).alloc (.cells #[.func (.func 127) #[] (TK.mk w.heap.size (w.heap.size + 1) (w.heap.size + 1 + 1) (w.heap.size + 1 + 1 + 1) (w.heap.size + 1 + 1 + 1 + 1) (w.heap.size + 1 + 1 + 1 + 1 + 1) (w.heap.size + 1 + 1 + 1 + 1 + 1 + 1) g n).caps] 75))
    have b1 := ((((((Blk.new (w.alloc (.cells #[.slice (some ⟨g, 0, none⟩) n n] 115)) 3 #[.int .i64 (-1)]).alloc (.cells #[.int .i64 0] 3)).alloc (.cells (madeCells #[.int .i64 0] n) 3)).alloc (.cells #[.slice (some ⟨w.heap.size + 1 + 1 + 1, 0, none⟩) n n] 22)).alloc (.cells #[.slice none 0 0] 22)).alloc (.cells #[.func (.func 127) #[] (TK.mk w.heap.size (w.heap.size + 1) (w.heap.size + 1 + 1) (w.heap.size + 1 + 1 + 1) (w.heap.size + 1 + 1 + 1 + 1) (w.heap.size + 1 + 1 + 1 + 1 + 1) (w.heap.size + 1 + 1 + 1 + 1 + 1 + 1) g n).caps] 75))
    have b2 := (((((Blk.new ((w.alloc (.cells #[.slice (some ⟨g, 0, none⟩) n n] 115)).alloc (.cells #[.int .i64 (-1)] 3)) 3 #[.int .i64 0]).alloc (.cells (madeCells #[.int .i64 0] n) 3)).alloc (.cells #[.slice (some ⟨w.heap.size + 1 + 1 + 1, 0, none⟩) n n] 22)).alloc (.cells #[.slice none 0 0] 22)).alloc (.cells #[.func (.func 127) #[] (TK.mk w.heap.size (w.heap.size + 1) (w.heap.size + 1 + 1) (w.heap.size + 1 + 1 + 1) (w.heap.size + 1 + 1 + 1 + 1) (w.heap.size + 1 + 1 + 1 + 1 + 1) (w.heap.size + 1 + 1 + 1 + 1 + 1 + 1) g n).caps] 75))
    have b3 := ((((Blk.new (((w.alloc (.cells #[.slice (some ⟨g, 0, none⟩) n n] 115)).alloc (.cells #[.int .i64 (-1)] 3)).alloc (.cells #[.int .i64 0] 3)) 3 (madeCells #[.int .i64 0] n)).alloc (.cells #[.slice (some ⟨w.heap.size + 1 + 1 + 1, 0, none⟩) n n] 22)).alloc (.cells #[.slice none 0 0] 22)).alloc (.cells #[.func (.func 127) #[] (TK.mk w.heap.size (w.heap.size + 1) (w.heap.size + 1 + 1) (w.heap.size + 1 + 1 + 1) (w.heap.size + 1 + 1 + 1 + 1) (w.heap.size + 1 + 1 + 1 + 1 + 1) (w.heap.size + 1 + 1 + 1 + 1 + 1 + 1) g n).caps] 75))
    have b4 := (((Blk.new ((((w.alloc (.cells #[.slice (some ⟨g, 0, none⟩) n n] 115)).alloc (.cells #[.int .i64 (-1)] 3)).alloc (.cells #[.int .i64 0] 3)).alloc (.cells (madeCells #[.int .i64 0] n) 3)) 22 #[.slice (some ⟨w.heap.size + 1 + 1 + 1, 0, none⟩) n n]).alloc (.cells #[.slice none 0 0] 22)).alloc (.cells #[.func (.func 127) #[] (TK.mk w.heap.size (w.heap.size + 1) (w.heap.size + 1 + 1) (w.heap.size + 1 + 1 + 1) (w.heap.size + 1 + 1 + 1 + 1) (w.heap.size + 1 + 1 + 1 + 1 + 1) (w.heap.size + 1 + 1 + 1 + 1 + 1 + 1) g n).caps] 75))
    have b5 := ((Blk.new (((((w.alloc (.cells #[.slice (some ⟨g, 0, none⟩) n n] 115)).alloc (.cells #[.int .i64 (-1)] 3)).alloc (.cells #[.int .i64 0] 3)).alloc (.cells (madeCells #[.int .i64 0] n) 3)).alloc (.cells #[.slice (some ⟨w.heap.size + 1 + 1 + 1, 0, none⟩) n n] 22)) 22 #[.slice none 0 0]).alloc (.cells #[.func (.func 127) #[] (TK.mk w.heap.size (w.heap.size + 1) (w.heap.size + 1 + 1) (w.heap.size + 1 + 1 + 1) (w.heap.size + 1 + 1 + 1 + 1) (w.heap.size + 1 + 1 + 1 + 1 + 1) (w.heap.size + 1 + 1 + 1 + 1 + 1 + 1) g n).caps] 75))
    have b6 := (Blk.new ((((((w.alloc (.cells #[.slice (some ⟨g, 0, none⟩) n n] 115)).alloc (.cells #[.int .i64 (-1)] 3)).alloc (.cells #[.int .i64 0] 3)).alloc (.cells (madeCells #[.int .i64 0] n) 3)).alloc (.cells #[.slice (some ⟨w.heap.size + 1 + 1 + 1, 0, none⟩) n n] 22)).alloc (.cells #[.slice none 0 0] 22)) 75 #[.func (.func 127) #[] (TK.mk w.heap.size (w.heap.size + 1) (w.heap.size + 1 + 1) (w.heap.size + 1 + 1 + 1) (w.heap.size + 1 + 1 + 1 + 1) (w.heap.size + 1 + 1 + 1 + 1 + 1) (w.heap.size + 1 + 1 + 1 + 1 + 1 + 1) g n).caps])
    simp only [alloc_size] at b0 b1 b2 b3 b4 b5 b6
    have b3' := nums_of b3 (made_ints n)
    exact ⟨a7, HP.out, b0, b1, b2, b3', b4, ⟨_, b5, World.ownsRow_nil _ _ _ _⟩, b6⟩
  case round =>
    obtain ⟨k, hk, rfl, hst⟩ := hrel
    have HT := Lib.hid hst
    have HI := Lib.hid (tsK_inv HU.out k hk)
    have c13 := hst.bu.cell 0
    have cm := hst.bm.cell 0
    have cw := hst.bw.cell 0
    have cf := hst.bf.cell 0
    simp only [List.getElem?_toArray, List.getElem?_cons_zero, TK.caps] at c13 cm cw cf
    obtain ⟨R, hR⟩ : ∃ R, tsK uses n k = R := ⟨_, rfl⟩
    rw [hR] at cf hst
    have HR := Lib.hid hR
    by_cases hlt : k < n
    · have hml : k < R.met.length := by rw [← hR, HI.out.len]; exact hlt
      have c1 := hst.nums.cell (getD_some hml (d := 0))
      obtain ⟨m, hm⟩ : ∃ m, R.met.getD k 0 = m := ⟨_, rfl⟩
      simp only [hm] at c1
      have HM := Lib.hid hm
      clear hR hst hm hml
      by_cases hm0 : m = 0
      · have hcall := follow_any w _ HK.out uses HU.out hn n R (k : Int) wr (unmet_le (by rw [← HR.out]; exact HI.out)) (by rw [← HR.out]; exact HI.out) (by omega) (by show (k : Int) < (n : Int); omega) (by rw [Int.toNat_natCast, HM.out, hm0]) (by rw [← HR.out]; exact HT.out)
        have HC := Lib.hid hcall
        have HS := Lib.hid (tsK_new (uses := uses) (n := n) (k := k) (by rw [HR.out, HM.out, hm0]))
        subst hm0
        clear hcall
        go_wp2_with (go_at_call 127; refine HC.out.mono ?_; rintro e w5 ⟨rfl, hst5⟩)
        go_roundw
        case rel => exact ⟨k + 1, by omega, by go_num, by rw [HS.out, HR.out]; exact hst5⟩
        case measure => simp [intOf]; omega
      · have HS := Lib.hid (tsK_old (uses := uses) (n := n) (k := k) (by rw [HR.out, HM.out]; exact hm0))
        have hq : (m == 0) = false := by simpa using hm0
        clear hm0
        go_wp2
        go_roundw
        case rel => exact ⟨k + 1, by omega, by go_num, by rw [HS.out]; exact HT.out⟩
        case measure => simp [intOf]; omega
    · have : k = n := by omega
      subst this
      clear hR hst
      go_wp2
      go_ret
      exact ⟨ret_int (by rw [HFF.out, HR.out]), HT.out.below⟩
end Go.Proofs.Ytdodhbfplglbkaa
