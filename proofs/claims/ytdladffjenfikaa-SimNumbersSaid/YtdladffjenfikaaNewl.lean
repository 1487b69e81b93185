/- The function that gives a variable the next new literal (a closure over the last one and the map). -/
import Derived.Test.YtdladffjenfikaaUses
import Derived.Test.YtdladffjenfikaaTable
namespace Go.Proofs.Ytdladffjenfikaa
open Go.RowKit

/-- The blocks of the last literal and of the map. -/
structure NumB (w : World) (bl bm gm : Nat) (last : Int) (M : List Int) : Prop where
  last : Blk w bl 3 #[.int .i64 last]
  mp : Blk w bm 22 #[.slice (some ⟨gm, 0, none⟩) M.length M.length]
  nums : Nums w gm M
set_option maxHeartbeats 1000000 in
set_option maxRecDepth 100000 in
theorem number_any (w : World) (bl bm gm : Nat) (last : Int) (M : List Int) (l : Int) (h : NumB w bl bm gm last M) (h1 : bl ≠ bm) (h2 : bl ≠ gm) (_h3 : bm ≠ gm) (h0 : 0 ≤ l) (hl : l / 2 < (M.length : Int)) (hm : M.length ≤ 100000) (hL : 0 ≤ last) (hL2 : last ≤ 1000000) :
    Calls Try.prog 88 #[.int .i64 l, .pointer (some ⟨bl, 0, none⟩), .pointer (some ⟨bm, 0, none⟩)] w fun e w' => e = .returned (.tuple #[]) ∧ w' = (w.setCell ⟨bl, 0, none⟩ (.int .i64 (last + 2))).setCell ⟨gm, (l / 2).toNat, none⟩ (.int .i64 (last + 2)) := by
  have hk : (l / 2).toNat < M.length := by omega
  have c0 := h.last.cell 0
  have f0 := Blk.frozen h.last 0
  have hs := Blk.set_ h.last 0 (.int .i64 (last + 2))
  have d0 := hs.cell 0
  have hm1 := Blk.far h.mp (p := ⟨bl, 0, none⟩) (by simpa using Ne.symm h1) (.int .i64 (last + 2))
  have d1 := hm1.cell 0
  have hn1 : Nums (w.setCell ⟨bl, 0, none⟩ (.int .i64 (last + 2))) gm M := Blk.far h.nums (by simpa using Ne.symm h2) _
  obtain ⟨x, hx⟩ : ∃ x, M[(l / 2).toNat]? = some x := ⟨_, List.getElem?_eq_getElem hk⟩
  have d2 := hn1.cell hx
  have f2 := Blk.frozen hn1 (l / 2).toNat
  simp only [List.getElem?_toArray, List.getElem?_cons_zero] at c0 d1
  simp at d0
  have hq := tdiv_nn (b := 2) h0
  have hq0 : 0 ≤ l / 2 := by omega
  clear h hs hm1 hn1 hx hk
  go_enter Try.func88, Try.ntmps88
  go_wp2
  go_end0
  exact ⟨rfl, rfl⟩

/-- So many variables get the next new literals. -/
def numF (ls : List Int) (st : Int × List Int) : Int × List Int := ls.foldl (fun s l => (s.1 + 2, s.2.set (l / 2).toNat (s.1 + 2))) st
theorem numF_len : ∀ (ls : List Int) (st : Int × List Int), (numF ls st).2.length = st.2.length ∧ (numF ls st).1 = st.1 + 2 * ls.length
  | [], st => ⟨rfl, by simp [numF]⟩
  | l :: r, st => by
    obtain ⟨h1, h2⟩ := numF_len r (st.1 + 2, st.2.set (l / 2).toNat (st.1 + 2))
    exact ⟨by show (numF r _).2.length = _; rw [h1]; simp, by show (numF r _).1 = _; rw [h2]; simp; omega⟩
theorem numF_snoc (ls : List Int) (l : Int) (st : Int × List Int) : numF (ls ++ [l]) st = ((numF ls st).1 + 2, (numF ls st).2.set (l / 2).toNat ((numF ls st).1 + 2)) := by simp [numF, List.foldl_append]
/-- The map of a circuit's variables, by the gates' order. -/
def newM (C : Circ) (gs : List Int) : List Int := (numF (C.inputs ++ C.latches.map (·.1) ++ gs.map (fun g => (C.ands.getD g.toNat (0, 0, 0)).1)) (0, List.replicate (C.max.toNat + 1) 0)).2
theorem NumB.step {w : World} {bl bm gm : Nat} {last : Int} {M : List Int} (h : NumB w bl bm gm last M) (h1 : bl ≠ bm) (h2 : bl ≠ gm) (h3 : bm ≠ gm) (i : Nat) : NumB ((w.setCell ⟨bl, 0, none⟩ (.int .i64 (last + 2))).setCell ⟨gm, i, none⟩ (.int .i64 (last + 2))) bl bm gm (last + 2) (M.set i (last + 2)) := by
  refine ⟨Blk.far (by simpa using Blk.set_ h.last 0 (.int .i64 (last + 2))) (by simpa using h2) _, ?_, Nums.set_ (Blk.far h.nums (by simpa using Ne.symm h2) _) i _⟩
  rw [List.length_set]
  exact Blk.far (Blk.far h.mp (by simpa using Ne.symm h1) _) (by simpa using h3) _
end Go.Proofs.Ytdladffjenfikaa
