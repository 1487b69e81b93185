/- Ascii: the numbers of a line. -/
import Derived.Test.YtkkolefhfmlhfabDoorAscB
import Derived.Test.YtkkolefhfmlhfabDoorUses
namespace Go.Proofs.YtkkolefhfmlhfabDoor
open Go.RowKit

theorem split_map (n : Nat) (l : Bs) : Lib.splitB (strB [32]) 0 (min n ((strB l).size + 1) - 1) (strB l) = (splitA n l).map strB := by
  have h := Lib.splitB_data (strB [32]) 0 (min n ((strB l).size + 1) - 1) (strB l)
  rw [strB_list, strB_list, strB_size] at h
  unfold splitA
  rw [strB_size, ← h, List.map_map]
  conv => lhs; rw [← List.map_id (Lib.splitB (strB [32]) 0 (min n (l.length + 1) - 1) (strB l))]
  exact List.map_congr_left fun s _ => (strB_of s).symm
theorem take_more' {α : Type} {xs : List α} {k : Nat} {x : α} (h : xs[k]? = some x) : xs.take (k + 1) = xs.take k ++ [x] := by
  obtain ⟨hk, e⟩ := List.getElem?_eq_some_iff.1 h
  rw [← e, List.take_append_getElem]
theorem numsA_snoc : ∀ {ws : List Bs} {ns : List Nat} {w : Bs} {n : Nat}, numsA ws = some ns → numA w = some n → numsA (ws ++ [w]) = some (ns ++ [n])
  | [], ns, w, n, h, hn => by
    injection h with h
    subst h
    simp [numsA, hn]
  | v :: ws, ns, w, n, h, hn => by
    unfold numsA at h
    split at h
    · rename_i a b h1 h2
      injection h with h
      subst h
      simp [numsA, h1, numsA_snoc h2 hn]
    · cases h
/-- What numbersOf answers. -/
def NumsAns (w : World) (q : Option (List Nat)) (e : Ending) (w' : World) : Prop := match q with
  | none => e = .returned (.tuple #[.slice none 0 0, .bool false])
  | some ns => ∃ g, e = .returned (.tuple #[.slice (some ⟨g, 0, none⟩) ns.length ns.length, .bool true]) ∧ w.heap.size ≤ g ∧ Nums w' g (intsA ns)
theorem cells_str {P : List Bs} {N i : Nat} {x : Bs} (hx : P[i]? = some x) : (Lib.cellsOf (P.map strB) N)[i]? = some (.string (strB x)) := by
  have hi := (List.getElem?_eq_some_iff.1 hx).1
  unfold Lib.cellsOf
  rw [List.getElem?_toArray, List.getElem?_append_left (by simpa using hi), List.getElem?_map, List.getElem?_map, hx]
  rfl
theorem numbersA_long {least most : Nat} {l : Bs} (h : (piecesA l).length < least ∨ most < (piecesA l).length) : numbersA least most l = none := by unfold numbersA; rw [if_pos h]
theorem numbersA_fit {least most : Nat} {l : Bs} (h1 : least ≤ (piecesA l).length) (h2 : (piecesA l).length ≤ most) : numbersA least most l = numsA (piecesA l) := by unfold numbersA; rw [if_neg (by omega)]
set_option maxHeartbeats 4000000 in
set_option maxRecDepth 100000 in
theorem numbersOf_any (w : World) (B : Nat) (l : Bs) (least most : Nat) (hmo : most ≤ 100) (_hle : least ≤ 100) (hlen : l.length ≤ 262144) (lib : LibB B w) (hB : B ≤ w.heap.size) :
    Calls Tryd.prog 48 #[.string (strB l), .int .i64 least, .int .i64 most] w fun e w' => Below w.heap.size w w' ∧ NumsAns w (numbersA least most l) e w' := by
  obtain ⟨mx, hmx⟩ := lib.here.max
  have hspl := Tryd.strings_SplitN (strB l) (strB [32]) (most + 1) mx w (by rw [strB_size]; omega) hmx (by rw [strB_size]; simp) (by omega) (by omega)
  rw [split_map, strB_size, List.length_map] at hspl
  obtain ⟨N, hN⟩ : ∃ N, min (most + 1) (l.length + 1) = N := ⟨_, rfl⟩
  rw [hN] at hspl
  have hwr : IntKind.i64.wrap ((most : Int) + 1) = (most : Int) + 1 := by rw [IntKind.wrap_i64]; omega
  obtain ⟨P, hP⟩ : ∃ P, splitA (most + 1) l = P := ⟨_, rfl⟩
  rw [hP] at hspl
  have HSPL : Hid (Calls Tryd.prog 68 #[.string (strB l), .string ⟨#[32]⟩, .int .i64 ((most : Int) + 1)] w fun e w' => e = .returned (.slice (some ⟨w.heap.size, 0, none⟩) P.length N) ∧ w' = w.alloc (.cells (Lib.cellsOf (P.map strB) N) 9)) := Lib.hid hspl
  have hpl : P.length ≤ 101 := by
    rw [← hP]
    by_cases h : (piecesA l).length ≤ most + 1
    · rw [splitA_few h]; omega
    · rw [splitA_many (by omega) (by omega)]; omega
  have HFW : Hid ((P = piecesA l ∧ P.length ≤ most) ∨ (most < P.length ∧ numbersA least most l = none)) := Lib.hid (by
    rw [← hP]
    by_cases h : (piecesA l).length ≤ most + 1
    · rw [splitA_few h]
      by_cases h2 : (piecesA l).length ≤ most
      · exact .inl ⟨rfl, h2⟩
      · exact .inr ⟨by omega, numbersA_long (.inr (by omega))⟩
    · rw [splitA_many (by omega) (by omega)]
      exact .inr ⟨by omega, numbersA_long (.inr (by omega))⟩)
  have hb1 : Below w.heap.size w (w.alloc (.cells (Lib.cellsOf (P.map strB) N) 9)) := (Below.refl _ _).alloc (Nat.le_refl _) _
  have hblk1 := Blk.new w 9 (Lib.cellsOf (P.map strB) N)
  have HLB := Lib.hid lib
  have HPC : Hid (∀ x ∈ piecesA l, x.length ≤ 262144) := Lib.hid (fun x hx => Nat.le_trans (piece_le l x hx) hlen)
  obtain ⟨q, hq⟩ : ∃ q, numbersA least most l = q := ⟨_, rfl⟩
  rw [hq] at HFW ⊢
  have HQF : Hid (least ≤ (piecesA l).length → (piecesA l).length ≤ most → q = numsA (piecesA l)) := Lib.hid (fun h1 h2 => by rw [← hq]; exact numbersA_fit h1 h2)
  have HQS : Hid ((piecesA l).length < least → q = none) := Lib.hid (fun h => by rw [← hq]; exact numbersA_long (.inl h))
  obtain ⟨m, hm⟩ : ∃ m, P.length = m := ⟨_, rfl⟩
  rw [hm] at HSPL hpl HFW
  have HM := Lib.hid hm
  clear hspl hmx hP hN hq hm lib
  go_enter Tryd.func48, Tryd.ntmps48
  go_upto_region 2 with (go_at_call 68; refine HSPL.out.mono ?_; rintro e w1 ⟨rfl, hw1⟩; have HW1 := Lib.hid hw1; clear hw1)
  rw [← HW1.out] at hb1 hblk1
  have HB1 := Lib.hid hb1
  have HBK1 := Lib.hid hblk1
  clear HW1 hb1 hblk1 HSPL
  by_cases hs : (m : Int) < (least : Int)
  · have HN : Hid (q = none) := Lib.hid (by
      rcases HFW.out with ⟨h1, h2⟩ | ⟨_, h2⟩
      · exact HQS.out (by rw [← h1, HM.out]; omega)
      · exact h2)
    go_wp2
    go_ret2
    exact ⟨HB1.out, by rw [HN.out]; rfl⟩
  · by_cases hg : (most : Int) < (m : Int)
    · have HN : Hid (q = none) := Lib.hid (by
        rcases HFW.out with ⟨_, h2⟩ | ⟨_, h2⟩
        · omega
        · exact h2)
      go_wp2
      go_ret2
      exact ⟨HB1.out, by rw [HN.out]; rfl⟩
    · have HPP : Hid (P = piecesA l) := Lib.hid (by
        rcases HFW.out with ⟨h1, _⟩ | ⟨h1, _⟩
        · exact h1
        · omega)
      have HQ : Hid (q = numsA P) := Lib.hid (by
        rw [HPP.out]
        exact HQF.out (by rw [← HPP.out, HM.out]; omega) (by rw [← HPP.out, HM.out]; omega))
      have HPC2 : Hid (∀ x ∈ P, x.length ≤ 262144) := Lib.hid (by rw [HPP.out]; exact HPC.out)
      clear HFW HQF HQS HPC HPP
      have hmk := make_ints m (by omega)
      have HB2 : Hid (Below w.heap.size w (w1.alloc (.cells (madeCells #[Value.int .i64 0] m) 3))) := Lib.hid (HB1.out.alloc HB1.out.size _)
      have HP2 : Hid (Nums (w1.alloc (.cells (madeCells #[Value.int .i64 0] m) 3)) w1.heap.size (List.replicate m 0)) := Lib.hid (new_ints w1 m)
      have HK2 : Hid (Blk (w1.alloc (.cells (madeCells #[Value.int .i64 0] m) 3)) w.heap.size 9 (Lib.cellsOf (P.map strB) N)) := Lib.hid (HBK1.out.alloc _)
      have HSZ : Hid (w.heap.size ≤ w1.heap.size ∧ w.heap.size ≠ w1.heap.size) := Lib.hid ⟨HB1.out.size, fun e => by have := Blk.lt HBK1.out; omega⟩
      go_wp2
      generalize w1.alloc (.cells (madeCells #[Value.int .i64 0] m) 3) = W2 at HB2 HP2 HK2 ⊢
      obtain ⟨g, hg1⟩ : ∃ g, w1.heap.size = g := ⟨_, rfl⟩
      rw [hg1] at HP2 HSZ ⊢
      clear hg1 hmk
      go_loopg [33] m (fun j iv wx => ∃ (k : Nat) (ns : List Nat), k ≤ m ∧ j = m - k ∧ iv = .int .i64 k ∧ ns.length = k ∧ numsA (P.take k) = some ns ∧ Nums wx g (intsA ns ++ List.replicate (m - k) 0) ∧ Blk wx w.heap.size 9 (Lib.cellsOf (P.map strB) N) ∧ Below w.heap.size w wx)
      case atStart => exact ⟨0, [], Nat.zero_le _, rfl, rfl, rfl, rfl, HP2.out, HK2.out, HB2.out⟩
      case round =>
        clear HP2 HK2 HB2
        obtain ⟨k, ns, hk, hgk, rfl, hql, hwd, hpr, hbk, hbw⟩ := hrel
        subst hgk
        have HQL := Lib.hid hql
        have HWD := Lib.hid hwd
        have HPR := Lib.hid hpr
        have HBK := Lib.hid hbk
        have HBW := Lib.hid hbw
        clear hql hwd hpr hbk hbw
        by_cases hlt : k < m
        · obtain ⟨x, hx⟩ : ∃ x, P[k]? = some x := ⟨_, List.getElem?_eq_getElem (by rw [HM.out]; exact hlt)⟩
          have d0 : wr.cell? ⟨w.heap.size, k, none⟩ = some (.string (strB x)) := by
            rw [HBK.out.cell]
            exact cells_str hx
          have HX := Lib.hid hx
          have HNO := Lib.hid (numberOf_any wr B x (HPC2.out x (List.mem_of_getElem? hx)) (HLB.out.up hB HBW.out) (Nat.le_trans hB HBW.out.size))
          have hk0 : (0 : Int) ≤ (k : Int) := by omega
          have hk1 : (k : Int) < (m : Int) := by omega
          have htk : P.take (k + 1) = P.take k ++ [x] := take_more' hx
          clear hx
          generalize strB x = sx at d0 HNO
          cases hn : numA x with
          | none =>
            have HN : Hid (q = none) := Lib.hid (by rw [HQ.out]; exact numsA_none HX.out hn)
            rw [hn] at HNO
            clear hn htk
            go_wp2_with (go_at_call 69; refine HNO.out.mono ?_; rintro e w2 ⟨hb, v, rfl, _⟩; have HB3 := Lib.hid (bt HBW.out (Nat.le_refl _) hb); clear hb)
            go_ret2
            exact ⟨HB3.out, by rw [HN.out]; rfl⟩
          | some z =>
            rw [hn] at HNO
            have HT : Hid (numsA (P.take (k + 1)) = some (ns ++ [z])) := Lib.hid (by rw [htk]; exact numsA_snoc HWD.out hn)
            clear hn htk
            have hzl : ns.length = k := HQL.out
            go_upto_region 9 with (go_at_call 69; refine HNO.out.mono ?_; rintro e w2 ⟨hb, v, rfl, hv⟩; obtain rfl := hv z rfl; have HB3 := Lib.hid hb; clear hb hv)
            have hpr2 : Nums w2 g (intsA ns ++ List.replicate (m - k) 0) := Blk.below HPR.out HB3.out (Blk.lt HPR.out)
            have f3 : w2.frozen? ⟨g, k, none⟩ = false := Blk.frozen hpr2 k
            have c3 : w2.cell? ⟨g, k, none⟩ = some (.int .i64 0) := hpr2.cell (by rw [List.getElem?_append_right (by simp [intsA, hzl]), List.getElem?_replicate, if_pos (by simp [intsA, hzl]; omega)])
            have HPR3 : Hid (Nums (w2.setCell ⟨g, k, none⟩ (.int .i64 (z : Int))) g (intsA (ns ++ [z]) ++ List.replicate (m - (k + 1)) 0)) := Lib.hid (by
              have h9 := hpr2.set_ k (z : Int)
              have e9 : (intsA ns ++ List.replicate (m - k) (0 : Int)).set k (z : Int) = intsA (ns ++ [z]) ++ List.replicate (m - (k + 1)) 0 := by
                rw [show m - k = (m - (k + 1)) + 1 by omega, List.replicate_succ]
                have hl9 : (intsA ns).length = k := by simp [intsA, hzl]
                rw [List.set_append_right _ _ (by omega), hl9, Nat.sub_self]
                simp [intsA]
              rw [e9] at h9
              exact h9)
            have HBK3 : Hid (Blk (w2.setCell ⟨g, k, none⟩ (.int .i64 (z : Int))) w.heap.size 9 (Lib.cellsOf (P.map strB) N)) := Lib.hid ((HBK.out.below HB3.out (Blk.lt HBK.out)).far (by exact HSZ.out.2) _)
            have HB4 : Hid (Below w.heap.size w (w2.setCell ⟨g, k, none⟩ (.int .i64 (z : Int)))) := Lib.hid (below_set (bt HBW.out (Nat.le_refl _) HB3.out) HSZ.out.1 _ _)
            have HQL2 : Hid ((ns ++ [z]).length = k + 1) := Lib.hid (by simp [hzl])
            clear hpr2 HNO hzl HPR HBK
            go_wp2
            go_roundg (m - (k + 1))
            case measure => omega
            case rel => first
              | exact ⟨k + 1, ns ++ [z], by omega, rfl, by go_num, HQL2.out, HT.out, HPR3.out, HBK3.out, HB4.out⟩
              | ((repeat apply Exists.intro); exact ⟨⟨k + 1, ns ++ [z], by omega, rfl, by go_num, HQL2.out, HT.out, HPR3.out, HBK3.out, HB4.out⟩, rfl⟩)
        · have hke : k = m := by omega
          have HN : Hid (q = some ns) := Lib.hid (by
            have h9 := HWD.out
            rw [List.take_of_length_le (by rw [HM.out]; omega)] at h9
            rw [HQ.out]; exact h9)
          have HE : Hid (Nums wr g (intsA ns)) := Lib.hid (by
            have h9 := HPR.out
            rw [show m - k = 0 by omega] at h9
            simpa using h9)
          have HL9 : Hid (ns.length = m) := Lib.hid (by rw [HQL.out]; omega)
          clear hke
          go_wp2
          go_ret2
          exact ⟨HBW.out, by rw [HN.out]; exact ⟨g, by rw [HL9.out]; rfl, HSZ.out.1, HE.out⟩⟩
end Go.Proofs.YtkkolefhfmlhfabDoor
