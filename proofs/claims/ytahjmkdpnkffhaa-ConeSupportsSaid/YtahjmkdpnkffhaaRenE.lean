/- The end of Renumber: what memory holds when all has been written, and what is handed out. -/
import Derived.Test.YtahjmkdpnkffhaaRenB
namespace Go.Proofs.Ytahjmkdpnkffhaa
open Go.RowKit

theorem step_store_row {P : Program} {ops : Array Oper} {o : Oper} {a : Act} {w : World} {K : Act → World → Prop} {Q : Exit → Act → World → Prop} {E : Prop} (hgd : o.guard = none) (ty : TypeId) (x y : Operand) (ho : o.op = .store ty x y)
    (g : Nat) (cells : Array Value) (hx : a.eval x = .pointer (some ⟨g, 0, none⟩)) (hy : a.eval y = .agg cells)
    (t : TypeId) (old : Array Value) (hg : w.heap[g]? = some (.cells old t (0, 0))) (hi : (P.info? ty).map (·.size) = some cells.size)
    (hold : old.size = cells.size) (h1 : cells.all (·.oneCell') = true)
    (h : K (a.put o.dst undef) (w.setRow g cells)) : if Region.wanted o (yielded ops a.tmps) = true then Oper.wp P o a w K Q else E := by
  rw [if_pos (by simp [Region.wanted, hgd])]
  exact wp_store_row ty x y ho g cells hx hy t old hg hi hold h1 h
section
variable {w2 X wx : World} {bo : Nat} {OUT : Array Value} {gm n : Nat} {M : List Int} {V : CV} {us : List Value} {C : Circ} {v6 : Value} {LV : List Value} {R : List (Value × List Int)}
theorem RnL.alloc (h : RnL w2 X wx bo OUT gm n M V us C v6 LV R) (o : Obj) : RnL w2 X (wx.alloc o) bo OUT gm n M V us C v6 LV R := by
  have hk : ∀ {t : TypeId} {k' n B : Nat} {v : Value} {xs : List Value}, wx.ownsRow B t k' v n xs → (wx.alloc o).ownsRow B t k' v n xs := fun ho => ho.alloc o
  exact ⟨h.below.trans ⟨rfl, rfl, rfl, by simp, fun k hk => by
    rcases Nat.lt_or_ge k wx.heap.size with hlt | hge
    · exact Below.heap_alloc _ _ _ hlt
    · have := Blk.lt h.bm
      omega⟩, ⟨fun p hp => hk (h.fam.own p hp), h.fam.apart⟩, hk h.lv, h.box.alloc o, h.bm.alloc o, Blk.alloc h.nums o, h.gml, hk h.j, hk h.l, hk h.a, hk h.s, hk h.t⟩
theorem RnL.drew (h : RnL w2 X wx bo OUT gm n M V us C v6 LV R) : RnL w2 X wx.drew bo OUT gm n M V us C v6 LV R :=
  ⟨h.below.drew, ⟨fun p hp => own_of_block (h.fam.own p hp) fun _ _ => rfl, h.fam.apart⟩, own_of_block h.lv fun _ _ => rfl, h.box, h.bm, h.nums, h.gml, own_of_block h.j fun _ _ => rfl, own_of_block h.l fun _ _ => rfl, own_of_block h.a fun _ _ => rfl, own_of_block h.s fun _ _ => rfl, own_of_block h.t fun _ _ => rfl⟩
end
end Go.Proofs.Ytahjmkdpnkffhaa

namespace Go.Proofs.Ytahjmkdpnkffhaa
open Go.RowKit

theorem nums_own {w : World} {B g : Nat} {L : List Int} (h : Nums w g L) (hB : B ≤ g) (hm : L.length ≤ maxLen) : w.ownsRow B 3 1 (.slice (some ⟨g, 0, none⟩) L.length L.length) L.length (L.map (Value.int .i64)) :=
  ⟨by simp, .inr ⟨g, L.length, (L.map (Value.int .i64)).toArray, rfl, hB, h, Nat.le_refl _, hm, by simp, by simp [List.take_of_length_le]⟩⟩
end Go.Proofs.Ytahjmkdpnkffhaa
