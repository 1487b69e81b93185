/- The end of Renumber: what memory holds when all has been written, and what is handed out. -/
import Derived.Test.YtahjmkdpnkffhaaRenB
namespace Go.Proofs.Ytahjmkdpnkffhaa
open Go.RowKit

theorem flat3_get : ∀ (LL : List Tri) (i j : Nat), j < 3 → (LL.flatMap encT)[i * 3 + j]? = (LL[i]?).bind (fun z => (encT z)[j]?)
  | [], i, j, _ => by simp
  | z :: r, 0, j, hj => by
    rw [List.flatMap_cons, List.getElem?_append_left (by simp; omega)]
    simp
  | z :: r, i + 1, j, hj => by
    rw [List.flatMap_cons, List.getElem?_append_right (by simp; omega), show (i + 1) * 3 + j - (encT z).length = i * 3 + j by simp; omega, flat3_get r i j hj]
    simp
theorem flat3_set (LL : List Tri) (q : Nat) (z : Tri) : (((LL.flatMap encT).set (q * 3) (.int .i64 z.1)).set (q * 3 + 1) (.int .i64 z.2.1)).set (q * 3 + 2) (.int .i64 z.2.2) = (LL.set q z).flatMap encT := by
  have hlen : ∀ (L : List Tri), (L.flatMap encT).length = L.length * 3 := fun L => flat_len lenT L
  apply List.ext_getElem?
  intro k
  obtain ⟨i, j, hj, rfl⟩ : ∃ i j, j < 3 ∧ k = i * 3 + j := ⟨k / 3, k % 3, by omega, by omega⟩
  rw [flat3_get _ i j hj]
  simp only [List.getElem?_set, List.length_set, hlen]
  by_cases hi : i = q
  · subst hi
    by_cases hl : i < LL.length
    · have h3 : j = 0 ∨ j = 1 ∨ j = 2 := by omega
      rcases h3 with rfl | rfl | rfl
      · rw [if_neg (by omega), if_neg (by omega), if_pos (by omega), if_pos (by omega)]
        simp [hl]
      · rw [if_neg (by omega), if_pos (by omega), if_pos (by omega)]
        simp [hl]
      · rw [if_pos (by omega), if_pos (by omega)]
        simp [hl]
    · have h3 : j = 0 ∨ j = 1 ∨ j = 2 := by omega
      rcases h3 with rfl | rfl | rfl
      · rw [if_neg (by omega), if_neg (by omega), if_pos (by omega), if_neg (by omega)]
        simp [hl]
      · rw [if_neg (by omega), if_pos (by omega), if_neg (by omega)]
        simp [hl]
      · rw [if_pos (by omega), if_neg (by omega)]
        simp [hl]
  · rw [if_neg (by omega), if_neg (by omega), if_neg (by omega), flat3_get _ i j hj, if_neg (by omega)]
/-- A row of things of three cells: its cells, and what three stores make of it. -/
theorem own_cells3 {w : World} {B : Nat} {t : TypeId} {v : Value} {LL : List Tri} (h : w.ownsRow B t 3 v LL.length (LL.flatMap encT)) (hn : 0 < LL.length) :
    ∃ g cap, v = .slice (some ⟨g, 0, none⟩) LL.length cap ∧ B ≤ g ∧ g < w.heap.size ∧ (∃ cs, Blk w g t cs) ∧ (∀ q z, LL[q]? = some z → w.cell? ⟨g, q * 3, none⟩ = some (.int .i64 z.1) ∧ w.cell? ⟨g, q * 3 + 1, none⟩ = some (.int .i64 z.2.1) ∧ w.cell? ⟨g, q * 3 + 2, none⟩ = some (.int .i64 z.2.2)) ∧ (∀ k, w.frozen? ⟨g, k, none⟩ = false) ∧
      (∀ q, q < LL.length → ∀ z : Tri, (((w.setCell ⟨g, q * 3, none⟩ (.int .i64 z.1)).setCell ⟨g, q * 3 + 1, none⟩ (.int .i64 z.2.1)).setCell ⟨g, q * 3 + 2, none⟩ (.int .i64 z.2.2)).ownsRow B t 3 v LL.length ((LL.set q z).flatMap encT)) := by
  rcases h.2 with ⟨hv0, _⟩ | ⟨g, cap, cur, rfl, hB, hb, h1, h2, h3, h4⟩
  · have hl := h.1
    subst hv0
    rcases h.2 with ⟨_, hx⟩ | ⟨_, _, _, hv, _⟩
    · rw [hx] at hl; simp at hl; omega
    · cases hv
  have hb' : Blk w g t cur := hb
  have hlen : (LL.flatMap encT).length = LL.length * 3 := flat_len lenT LL
  refine ⟨g, cap, rfl, hB, hb'.lt, ⟨_, hb'⟩, fun q z hz => ?_, fun k => hb'.frozen k, fun q hq z => ?_⟩
  · have hq : q < LL.length := (List.getElem?_eq_some_iff.1 hz).1
    have hc : ∀ j, j < 3 → w.cell? ⟨g, q * 3 + j, none⟩ = (encT z)[j]? := fun j hj => by
      rw [hb'.cell]
      have e := flat3_get LL q j hj
      rw [hz, ← h4, List.getElem?_take, if_pos (by omega), Array.getElem?_toList] at e
      exact e
    exact ⟨hc 0 (by omega), hc 1 (by omega), hc 2 (by omega)⟩
  · have s1 := Blk.set_ hb' (q * 3) (.int .i64 z.1)
    have s2 := Blk.set_ s1 (q * 3 + 1) (.int .i64 z.2.1)
    have s3 := Blk.set_ s2 (q * 3 + 2) (.int .i64 z.2.2)
    refine ⟨by rw [flat_len lenT, List.length_set], .inr ⟨g, cap, _, rfl, hB, s3, h1, h2, by simpa using h3, ?_⟩⟩
    rw [← flat3_set, ← h4]
    simp only [Array.toList_setIfInBounds, List.take_set]
section
variable {w2 X wx : World} {bo : Nat} {OUT : Array Value} {gm n : Nat} {M : List Int} {V : CV} {us : List Value} {C : Circ} {v6 : Value} {LV : List Value} {R : List (Value × List Int)}
theorem RnL.alloc (h : RnL w2 X wx bo OUT gm n M V us C v6 LV R) (o : Obj) : RnL w2 X (wx.alloc o) bo OUT gm n M V us C v6 LV R := by
  have hk : ∀ {t : TypeId} {k' n B : Nat} {v : Value} {xs : List Value}, wx.ownsRow B t k' v n xs → (wx.alloc o).ownsRow B t k' v n xs := fun ho => ho.alloc o
  exact ⟨h.below.trans ⟨rfl, rfl, rfl, by simp, fun k hk => by
    rcases Nat.lt_or_ge k wx.heap.size with hlt | hge
    · exact Below.heap_alloc _ _ _ hlt
    · have := Blk.lt h.bm
      omega⟩, ⟨fun p hp => hk (h.fam.own p hp), h.fam.apart⟩, hk h.lv, h.box.alloc o, h.bm.alloc o, Blk.alloc h.nums o, h.gml, hk h.j, hk h.l, hk h.a, hk h.s, hk h.t⟩
theorem RnL.drew (h : RnL w2 X wx bo OUT gm n M V us C v6 LV R) : RnL w2 X wx.drew bo OUT gm n M V us C v6 LV R :=
  ⟨h.below.drew, ⟨fun p hp => own_of_block (h.fam.own p hp) fun _ _ => rfl, h.fam.apart⟩, own_of_block h.lv fun _ _ => rfl, h.box, h.bm, h.nums, h.gml, own_of_block h.j fun _ _ => rfl, own_of_block h.l fun _ _ => rfl, own_of_block h.a fun _ _ => rfl, own_of_block h.s fun _ _ => rfl, own_of_block h.t fun _ _ => rfl⟩
end
end Go.Proofs.Ytahjmkdpnkffhaa

namespace Go.Proofs.Ytahjmkdpnkffhaa
open Go.RowKit

/-- What a function hands out whose results are a cell of several cells and two slots. -/
theorem results_cell_two {fn : Func} {p q r : Tmp} {ty : TypeId} {P : Program} (h : fn.results = #[.cell p ty, .tmp q, .tmp r]) (tmps : Array Value) (w : World) (g : Nat) (t : TypeId) (cs : Array Value) (fr : Nat × Nat) (d : TypeDesc)
    (hp : tmps.getD p undef = .pointer (some ⟨g, 0, none⟩)) (hg : w.heap[g]? = some (.cells cs t fr))
    (hu : P.underlying ty = some d) (hd : (match d with | .struct _ | .array _ _ => true | _ => false) = true) (hi : (P.info? ty).map (·.size) = some cs.size) (v u : Value) (hv : tmps.getD q undef = v) (hu2 : tmps.getD r undef = u) :
    (results fn tmps).run P w = .ok (.tuple #[.agg cs, v, u]) w := by
  have hp' : tmps[p]?.getD undef = .pointer (some ⟨g, 0, none⟩) := by simpa using hp
  subst hv hu2
  have hl := run_loadVar_row w g t ty cs fr d hg hu (by cases d <;> first | rfl | exact hd) hi
  simp [results, h, hp', asAddr, hl]
theorem nums_own {w : World} {B g : Nat} {L : List Int} (h : Nums w g L) (hB : B ≤ g) (hm : L.length ≤ maxLen) : w.ownsRow B 3 1 (.slice (some ⟨g, 0, none⟩) L.length L.length) L.length (L.map (Value.int .i64)) :=
  ⟨by simp, .inr ⟨g, L.length, (L.map (Value.int .i64)).toArray, rfl, hB, h, Nat.le_refl _, hm, by simp, by simp [List.take_of_length_le]⟩⟩
end Go.Proofs.Ytahjmkdpnkffhaa
