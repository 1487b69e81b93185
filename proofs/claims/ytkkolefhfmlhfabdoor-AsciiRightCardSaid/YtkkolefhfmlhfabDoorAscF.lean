/- Ascii: lists of lines. -/
import Derived.Test.YtkkolefhfmlhfabDoorAscE
namespace Go.Proofs.YtkkolefhfmlhfabDoor
open Go.RowKit

theorem rowA_ok {s r : Bs} {p least most : Nat} {ns : List Nat} (h : rowA least most (s.drop p) = .ok (ns, r)) : s.drop (s.length - r.length) = r ∧ r.length < s.length ∧ p < s.length ∧ least ≤ ns.length ∧ ns.length ≤ most ∧ ∀ x ∈ ns, x ≤ 2147483647 := by
  unfold rowA at h
  cases hl : lineA (s.drop p) with
  | none => rw [hl] at h; cases h
  | some y =>
    obtain ⟨l, r'⟩ := y
    rw [hl] at h
    simp only at h
    cases hn : numbersA least most l with
    | none => rw [hn] at h; cases h
    | some ns' =>
      rw [hn] at h
      simp only at h
      injection h with h
      injection h with h1 h2
      subst h1 h2
      obtain ⟨a, b, c, _⟩ := lineA_drop hl
      unfold numbersA at hn
      split at hn
      · cases hn
      · obtain ⟨e, hv⟩ := numsA_some hn
        refine ⟨a, b, c, by omega, by omega, fun x hx => ?_⟩
        obtain ⟨i, hi, rfl⟩ := List.getElem_of_mem hx
        exact numA_le (hv i _ _ (List.getElem?_eq_getElem (by omega)) (List.getElem?_eq_getElem hi))
def glueA {α : Type} (xs : List α) (q : Rs (List α)) : Rs (List α) := match q with
  | .error k => .error k
  | .ok (ys, r) => .ok (xs ++ ys, r)
theorem glue_nil {α : Type} (q : Rs (List α)) : glueA [] q = q := by
  cases q with
  | error k => rfl
  | ok y => rfl
theorem glue_glue {α : Type} (xs ys : List α) (q : Rs (List α)) : glueA xs (glueA ys q) = glueA (xs ++ ys) q := by
  cases q with
  | error k => rfl
  | ok y => simp [glueA]
theorem list_err {most m k : Nat} {r : Bs} (h : rowA 1 1 r = .error k) : listA most (m + 1) r = .error k := by unfold listA; rw [h]
theorem list_big {most m x : Nat} {r r' : Bs} (h : rowA 1 1 r = .ok ([x], r')) (hx : most < x) : listA most (m + 1) r = .error r.length := by unfold listA; rw [h]; simp [hx]
theorem list_ok {most m x : Nat} {r r' : Bs} (h : rowA 1 1 r = .ok ([x], r')) (hx : ¬ most < x) : listA most (m + 1) r = glueA [x] (listA most m r') := by
  have e : listA most (m + 1) r = if most < x then .error r.length else match listA most m r' with
      | .error k => .error k
      | .ok (xs, r'') => .ok (x :: xs, r'') := by
    conv => lhs; unfold listA
    rw [h]
    rfl
  rw [e, if_neg hx]
  cases listA most m r' with
  | error k => rfl
  | ok y => rfl
theorem one_of {ns : List Nat} (h1 : 1 ≤ ns.length) (h2 : ns.length ≤ 1) : ∃ x, ns = [x] := by
  match ns with
  | [] => simp at h1
  | [x] => exact ⟨x, rfl⟩
  | _ :: _ :: _ => simp at h2
set_option maxHeartbeats 4000000 in
set_option maxRecDepth 100000 in
theorem list_any (w : World) (B b : Nat) (s : Bs) (p l n most : Nat) (h : Rd w b s p l) (hp : p ≤ s.length) (hs : s.length ≤ 262144) (hn : n ≤ 100000) (_hmo : most ≤ 2147483647) (lib : LibB B w) (hB : B ≤ b) :
    Calls Tryd.prog 74 #[.pointer (some ⟨b, 0, none⟩), .int .i64 n, .int .i64 most] w fun e w' => w.grownBy w' (some b) ∧ RowAns (fun _ => True) w b s (listA most n (s.drop p)) e w' := by
  have hlt : b < w.heap.size := Blk.lt h
  have HLB := Lib.hid lib
  have HRD0 := Lib.hid h
  obtain ⟨q, hq⟩ : ∃ q, listA most n (s.drop p) = q := ⟨_, rfl⟩
  rw [hq]
  have HQ0 : Hid (q = glueA [] (listA most n (s.drop p))) := Lib.hid (by rw [glue_nil, hq])
  have hmk := make_ints n (by omega)
  have HG2 : Hid (w.grownBy (w.alloc (.cells (madeCells #[Value.int .i64 0] n) 3)) (some b)) := Lib.hid (gb_of ((Below.refl _ _).alloc (Nat.le_refl _) _))
  have HP2 : Hid (Nums (w.alloc (.cells (madeCells #[Value.int .i64 0] n) 3)) w.heap.size (List.replicate n 0)) := Lib.hid (new_ints w n)
  have HR2 : Hid (Rd (w.alloc (.cells (madeCells #[Value.int .i64 0] n) 3)) b s p l) := Lib.hid (Blk.alloc h _)
  clear h lib hq
  go_enter Tryd.func74, Tryd.ntmps74
  go_wp2
  generalize w.alloc (.cells (madeCells #[Value.int .i64 0] n) 3) = W2 at HG2 HP2 HR2 ⊢
  obtain ⟨g, hg1⟩ : ∃ g, w.heap.size = g := ⟨_, rfl⟩
  rw [hg1] at HP2 hlt ⊢
  have HGE := Lib.hid hg1
  clear hg1 hmk
  go_loopg [13] n (fun j iv wx => ∃ (k pk lk : Nat) (xs : List Nat), k ≤ n ∧ j = n - k ∧ iv = .int .i64 k ∧ pk ≤ s.length ∧ Rd wx b s pk lk ∧ xs.length = k ∧ Nums wx g (intsA xs ++ List.replicate (n - k) 0) ∧ q = glueA xs (listA most (n - k) (s.drop pk)) ∧ w.grownBy wx (some b))
  case atStart => exact ⟨0, p, l, [], Nat.zero_le _, rfl, rfl, hp, HR2.out, rfl, HP2.out, HQ0.out, HG2.out⟩
  case round =>
    clear HP2 HR2 HG2 HRD0 HQ0
    obtain ⟨k, pk, lk, xs, hk, hgk, rfl, hpk, hrd, hxl, hnu, hqq, hgb⟩ := hrel
    subst hgk
    have HRD := Lib.hid hrd
    have HXL := Lib.hid hxl
    have HNU := Lib.hid hnu
    have HQ := Lib.hid hqq
    have HGB := Lib.hid hgb
    clear hrd hxl hnu hqq hgb
    by_cases hkn : k < n
    · have hk0 : (0 : Int) ≤ (k : Int) := by omega
      have hk1 : (k : Int) < (n : Int) := by omega
      have HNB := Lib.hid (numbers_any wr B b s pk lk 1 1 HRD.out hpk hs (by omega) (by omega) (HLB.out.on (gb_to HGB.out hB (by rw [HGE.out]; omega))) hB)
      have hsz : w.heap.size ≤ wr.heap.size := HGB.out.size
      cases hr : rowA 1 1 (s.drop pk) with
      | error kk =>
        rw [hr] at HNB
        have HE : Hid (q = .error kk) := Lib.hid (by
          rw [HQ.out, show n - k = (n - (k + 1)) + 1 by omega, list_err hr]
          rfl)
        clear hr HQ
        go_wp2_with (go_at_call 75; refine HNB.out.mono ?_; rintro e w1 ⟨hg, he⟩; have he2 : e = pan ((s.length - kk : Nat) : Int) 42 := he; subst he2; have HG := Lib.hid (gb_trans HGB.out hg); clear hg he)
        refine ⟨rfl, HG.out, ?_⟩
        rw [HE.out]
        rfl
      | ok y =>
        obtain ⟨ns, r⟩ := y
        obtain ⟨hd, hrl, hp2, h1, h2, hle⟩ := rowA_ok hr
        obtain ⟨x, rfl⟩ := one_of h1 h2
        rw [hr] at HNB
        have hx31 := hle x (by simp)
        go_upto_region 6 with (go_at_call 75; refine HNB.out.mono ?_; rintro e w1 ⟨hg, he⟩; obtain ⟨g2, l2, hl2, rfl, hg2, hnu2, hrd2⟩ := he; rw [hl2] at hrd2; have HG := Lib.hid hg; have HNU2 := Lib.hid hnu2; have HRD2 := Lib.hid hrd2; have HGG : Hid (g < g2) := Lib.hid (by rw [← HGE.out]; have := Blk.lt HNU.out; rw [← HGE.out] at this; omega); have c5 : w1.cell? ⟨g2, 0, none⟩ = some (.int .i64 (x : Int)) := hnu2.cell (by simp [intsA]); have hnu3 : Nums w1 g (intsA xs ++ List.replicate (n - k) 0) := (hg.block g (Blk.lt HNU.out) (fun e => by injection e with e; omega)).trans HNU.out; have f3 : w1.frozen? ⟨g, k, none⟩ = false := Blk.frozen hnu3 k; have c3 : w1.cell? ⟨g, k, none⟩ = some (.int .i64 0) := hnu3.cell (by rw [List.getElem?_append_right (by simp [intsA, HXL.out]), List.getElem?_replicate, if_pos (by simp [intsA, HXL.out]; omega)]); have HNU3 := Lib.hid hnu3; clear hg hnu2 hrd2 hnu3 hl2 l2)
        obtain ⟨W5, hW5⟩ : ∃ W5, w1.setCell ⟨g, k, none⟩ (.int .i64 (x : Int)) = W5 := ⟨_, rfl⟩
        rw [hW5]
        have HNU5 : Hid (Nums W5 g (intsA (xs ++ [x]) ++ List.replicate (n - (k + 1)) 0)) := Lib.hid (by
          have h9 := HNU3.out.set_ k (x : Int)
          have e9 : (intsA xs ++ List.replicate (n - k) (0 : Int)).set k (x : Int) = intsA (xs ++ [x]) ++ List.replicate (n - (k + 1)) 0 := by
            rw [show n - k = (n - (k + 1)) + 1 by omega, List.replicate_succ]
            have hl9 : (intsA xs).length = k := by simp [intsA, HXL.out]
            rw [List.set_append_right _ _ (by omega), hl9, Nat.sub_self]
            simp [intsA]
          rw [e9, hW5] at h9
          exact h9)
        have hgb5 : w1.grownBy W5 (some g) := by rw [← hW5]; exact gb_set (World.grownBy.refl w1 (some g)) k _
        have HRD5 : Hid (Rd W5 b s (s.length - r.length) pk) := Lib.hid (by
          have h9 := HRD2.out
          exact (hgb5.block b (Blk.lt h9) (fun e => by injection e with e; omega)).trans h9)
        have HG5 : Hid (w.grownBy W5 (some b)) := Lib.hid (by
          have h9 := gb_trans HGB.out HG.out
          refine ⟨hgb5.os.trans h9.os, hgb5.tape.trans h9.tape, hgb5.output.trans h9.output, Nat.le_trans h9.size hgb5.size, fun k9 hk9 hne => ?_⟩
          exact (hgb5.block k9 (Nat.lt_of_lt_of_le hk9 h9.size) (fun e => by injection e with e; have := HGE.out; omega)).trans (h9.block k9 hk9 hne))
        have c6 : W5.cell? ⟨g, k, none⟩ = some (.int .i64 (x : Int)) := HNU5.out.cell (by
          rw [List.getElem?_append_left (by simp [intsA, HXL.out])]
          simp [intsA, HXL.out])
        have HXL2 : Hid ((xs ++ [x]).length = k + 1) := Lib.hid (by simp [HXL.out])
        have HQ5 : Hid (q = if most < x then .error (s.drop pk).length else glueA (xs ++ [x]) (listA most (n - (k + 1)) (s.drop (s.length - r.length)))) := Lib.hid (by
          rw [HQ.out, show n - k = (n - (k + 1)) + 1 by omega]
          by_cases hx : most < x
          · rw [if_pos hx, list_big hr hx]; rfl
          · rw [if_neg hx, list_ok hr hx, glue_glue, hd])
        clear c3 c5 f3 hr hle HNB HNU3 HNU2 HRD2 HG hgb5 hW5
        by_cases hx : most < x
        · have hxI : (most : Int) < (x : Int) := by omega
          have HE : Hid (q = .error (s.drop pk).length ∧ s.length - (s.drop pk).length = pk) := Lib.hid ⟨by rw [HQ5.out, if_pos hx], lineA_end hpk⟩
          have HRF := Lib.hid (refuse_any W5 b s _ pk HRD5.out)
          clear hx HQ5
          go_wp2_with (go_at_call 71; refine HRF.out.mono ?_; rintro e w6 ⟨rfl, rfl⟩)
          refine ⟨rfl, HG5.out, ?_⟩
          rw [HE.out.1]
          show pan pk 42 = pan _ 42
          rw [HE.out.2]
        · have hxI : (x : Int) ≤ (most : Int) := by omega
          have HE : Hid (q = glueA (xs ++ [x]) (listA most (n - (k + 1)) (s.drop (s.length - r.length)))) := Lib.hid (by rw [HQ5.out, if_neg hx])
          clear hx HQ5
          go_wp2
          go_roundg (n - (k + 1))
          case measure => omega
          case rel => first
            | exact ⟨k + 1, s.length - r.length, pk, xs ++ [x], by omega, rfl, by go_num, by omega, HRD5.out, HXL2.out, HNU5.out, HE.out, HG5.out⟩
            | ((repeat apply Exists.intro); exact ⟨⟨k + 1, s.length - r.length, pk, xs ++ [x], by omega, rfl, by go_num, by omega, HRD5.out, HXL2.out, HNU5.out, HE.out, HG5.out⟩, rfl⟩)
    · have hkk : k = n := by omega
      have HE : Hid (q = .ok (xs, s.drop pk) ∧ s.length - (s.drop pk).length = pk ∧ xs.length = n) := Lib.hid (by
        refine ⟨?_, lineA_end hpk, by rw [HXL.out]; omega⟩
        rw [HQ.out, show n - k = 0 by omega]
        simp [listA, glueA])
      have HNF : Hid (Nums wr g (intsA xs)) := Lib.hid (by
        have h9 := HNU.out
        rw [show n - k = 0 by omega] at h9
        simpa using h9)
      clear hkk
      go_wp2
      go_ret
      refine ⟨HGB.out, ?_⟩
      rw [HE.out.1]
      refine ⟨g, lk, trivial, by rw [HE.out.2.2]; rfl, by rw [HGE.out]; exact Nat.le_refl _, HNF.out, ?_⟩
      rw [HE.out.2.1]
      exact HRD.out
end Go.Proofs.YtkkolefhfmlhfabDoor
