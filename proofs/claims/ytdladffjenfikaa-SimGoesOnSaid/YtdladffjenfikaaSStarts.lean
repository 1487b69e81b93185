/- The walk of SimStarts: for whatever circuit and state the statement's Go function answers true, and nothing that was there has turned. -/
import Derived.Test.YtdladffjenfikaaSimB
import Derived.Test.YtdladffjenfikaaAppF
import Derived.Test.YtdladffjenfikaaSimW
import Derived.Test.YtdladffjenfikaaSimG
import Derived.Test.YtdladffjenfikaaLendC
import Derived.Test.YtdladffjenfikaaKeptC
import Derived.Test.YtdladffjenfikaaArgR
namespace Go.Proofs.Ytdladffjenfikaa
open Go.RowKit

set_option maxHeartbeats 800000 in
theorem SameO_any (w : World) (v u : Value) (xs ys : List Bool) (h : RowE 1 encO w v xs) (h' : RowE 1 encO w u ys) : Calls Try.prog 17 #[v, u] w fun e w' => e = .returned (.bool (decide (xs = ys))) ∧ Below w.heap.size w w' := by
  have hlen := h.len
  have hlen' := h'.len
  unfold maxLen at hlen hlen'
  obtain ⟨A, c, rfl, hc, hm, hp⟩ := h
  obtain ⟨A', c', rfl, hc', hm', hq⟩ := h'
  generalize hr : decide (xs = ys) = r
  have HR := Lib.hid hr
  clear hr hc hm hc' hm'
  have HP := Lib.hid hp
  have HQ := Lib.hid hq
  clear hp hq
  by_cases hne : xs.length = ys.length
  · rw [← hne]
    have HM := Lib.hid hne
    clear hne hlen'
    generalize hn : xs.length = n at *
    have HN := Lib.hid hn
    clear hn
    go_enter Try.func17, Try.ntmps17
    go_wp2
    go_loopw [5] (fun i wr => ∃ k : Nat, k ≤ n ∧ i = .int .i64 k ∧ xs.take k = ys.take k ∧ Below w.heap.size w wr) (fun i _ => n - (intOf i).toNat)
    case atStart => exact ⟨0, Nat.zero_le _, rfl, by simp, Below.refl _ _⟩
    case round =>
      obtain ⟨k, hk, rfl, hall, hbw⟩ := hrel
      have HA := Lib.hid hall
      clear hall
      by_cases hlt : k < n
      · have hx := List.getElem?_eq_getElem (l := xs) (i := k) (by rw [HN.out]; exact hlt)
        have hy := List.getElem?_eq_getElem (l := ys) (i := k) (by rw [← HM.out]; exact hlt)
        generalize xs[k]'(by rw [HN.out]; exact hlt) = x at hx
        generalize ys[k]'(by rw [← HM.out]; exact hlt) = y at hy
        obtain ⟨b, off, rfl, hb, hcell⟩ := HP.out k x hx
        obtain ⟨b', off', rfl, hb', hcell'⟩ := HQ.out k y hy
        have HX := Lib.hid hx
        have HY := Lib.hid hy
        clear hx hy
        have h0 := (hbw.cell (p := ⟨b, off + (k * 1 + 0), none⟩) hb).trans (hcell 0 _ rfl)
        have g0 := (hbw.cell (p := ⟨b', off' + (k * 1 + 0), none⟩) hb').trans (hcell' 0 _ rfl)
        simp only [Nat.add_zero, Nat.mul_one] at h0 g0
        clear hcell hcell'
        cases he : x == y
        · have hr : r = false := by
            rw [← HR.out, decide_eq_false_iff_not]
            intro e
            subst e
            have e2 := HX.out.symm.trans HY.out
            rw [Option.some.injEq] at e2
            rw [beq_iff_eq.2 e2] at he
            cases he
          subst hr
          clear HX HY
          have hl1 : (x == y) = false := he
          have hl2 : (x != y) = true := by unfold bne; rw [hl1]; rfl
          clear he
          all_goals
            go_wp2
            go_quiet (fail)
            go_wp2
            go_ret
            exact ⟨rfl, below_drewN hbw _⟩
        · have HE := Lib.hid he
          have hl1 : (x == y) = true := he
          have hl2 : (x != y) = false := by unfold bne; rw [hl1]; rfl
          clear he
          go_wp2
          go_quiet (fail)
          go_wp2
          go_roundw
          case rel => exact ⟨k + 1, by omega, by go_num, take_eq_succ' HX.out (by rw [beq_iff_eq.1 HE.out]; exact HY.out) HA.out, below_drewN hbw _⟩
          case measure => simp [intOf]; omega
      · have : k = n := by omega
        subst this
        go_wp2
        go_ret
        refine ⟨ret_bool ?_, hbw⟩
        rw [← HR.out, eq_comm, decide_eq_true_iff]
        exact take_all HN.out (HM.out.symm) HA.out
  · have hr : r = false := by
      rw [← HR.out, decide_eq_false_iff_not]
      intro e; exact hne (by rw [e])
    subst hr
    have hd : ((xs.length : Int) == (ys.length : Int)) = false := by simpa using fun e => hne (by exact_mod_cast e)
    have hd2 : ((xs.length : Int) != (ys.length : Int)) = true := by simpa using fun e => hne (by exact_mod_cast e)
    have HR := Lib.hid hne
    clear hne
    go_enter Try.func17, Try.ntmps17
    go_wp2
    go_ret
    exact ⟨rfl, Below.refl _ _⟩

theorem own_formO {w : World} {B n : Nat} {v : Value} {xs : List Value} (h : w.ownsRow B 4 1 v n xs) (hn : 0 < n) :
    ∃ g cap cur, v = .slice (some ⟨g, 0, none⟩) n cap ∧ B ≤ g ∧ w.heap[g]? = some (.cells cur 4 (0, 0)) ∧ n ≤ cap ∧ cap ≤ maxLen ∧ cur.size = cap ∧ cur.toList.take n = xs := by
  rcases h.2 with ⟨_, h0⟩ | ⟨g, cap, cur, hv, hb, hg, h1, h2, h3, h4⟩
  · omega
  · exact ⟨g, cap, cur, hv, hb, hg, h1, h2, by simpa using h3, by simpa using h4⟩
theorem bool_infoO : (Try.prog.info? 4).map (fun i => (i.zero, i.size, i.bytes)) = some (some (.bool false), 1, 1) := by kernel_rfl
set_option maxHeartbeats 1000000 in
set_option maxRecDepth 100000 in
theorem lent_any (w : World) (v : Value) (zs : List Bool) (h : RowE 1 encO w v zs) (hb : zs.length ≤ 140737488351232) :
    Calls Try.prog 10 #[v] w fun e w' => ∃ v', e = .returned v' ∧ RowE 1 encO w' v' zs ∧ Below w.heap.size w w' := by
  obtain ⟨A, c, rfl, hr⟩ := h.reads lenO (by omega)
  obtain ⟨i0, hi0, hz0, hz1, hz2⟩ := info_of2 bool_infoO
  have hm := h.len
  unfold maxLen at hm
  clear h
  go_enter Try.func10, Try.ntmps10
  go_wp2_with (first
    | (at_builtin; refine wpList_append_any _ rfl (.tmp 3) (.tmp 4) _ rfl w.heap.size 4 i0 _ 1 1 Try.underlying30 hi0 hz0 hz1 hz2 rfl (by omega) (.slice (some ⟨w.heap.size, 0, none⟩) 0 0) 0 [] rfl (World.ownsRow_made w #[] 0 (Nat.le_refl _) (by simp [maxLen]) rfl) w.heap.size A zs.length c (zs.flatMap encO) rfl (hr.alloc (Nat.le_refl _) _) (flat_one oneO zs) (by simp only [maxLen]; omega) (by omega) (by simp) ?_; intro v1 w1 hown1 hg1 hat1; have HW1 : Hid (Below w.heap.size w w1) := Lib.hid (((Below.refl _ _).alloc (Nat.le_refl _) _).grown hg1 (by simp) (by intro k hk; cases hk; exact Nat.le_refl _)))
    | (at_builtin; refine wpList_append_any _ rfl (.tmp 5) (.tmp 6) _ rfl w.heap.size 4 i0 _ 1 1 Try.underlying30 hi0 hz0 hz1 hz2 rfl (by omega) v1 (0 + zs.length) ([] ++ zs.flatMap encO) rfl (hown1.alloc _) (w1.heap.size + 1) (some ⟨w1.heap.size, 0, none⟩) 1 1 [.bool true] rfl (reads_one _ _ _) (by simp [Value.oneCell']) (by simp only [maxLen]; omega) (by omega) (by have := HW1.out.size; simp; omega) ?_; intro v2 w2 hown2 hg2 hat2; obtain ⟨g, cap, cur, rfl, hB, hg, hn, hm2, hsz, htk⟩ := own_formO hown2 (by omega); have HW2 : Hid (Below w.heap.size w w2) := Lib.hid ((HW1.out.alloc HW1.out.size _).grown hg2 (by have := HW1.out.size; simp; omega) (fun k hk => (hown1.lt k hk).1))))
  go_ret
  refine ⟨_, rfl, ⟨_, cap, rfl, by omega, hm2, fun i z hz => ⟨g, 0, rfl, (Array.getElem?_eq_some_iff.1 hg).1, fun j u hu => ?_⟩⟩, HW2.out⟩
  have hi : i < zs.length := (List.getElem?_eq_some_iff.1 hz).1
  have hj : j = 0 := by have := (List.getElem?_eq_some_iff.1 hu).1; simp at this; exact this
  subst hj
  have e : cur.toList[i]? = (zs.map Value.bool ++ [.bool true])[i]? := by
    have e2 : cur.toList.take (zs.length + 1) = zs.map Value.bool ++ [.bool true] := by simpa [flat_bools] using htk
    rw [← e2, List.getElem?_take, if_pos (by omega)]
  rw [Nat.zero_add, Nat.mul_one, Nat.add_zero, cell_of_row w2 g _ cur _ _ hg, ← Array.getElem?_toList, e, List.getElem?_append_left (by simpa using hi), ← hu]
  simp [hz]
/-- The first n cells of block g hold truths; nothing else is said of them. -/
def BoolBlk (w : World) (g n cap : Nat) : Prop := ∃ cur : Array Value, w.heap[g]? = some (.cells cur 4 (0, 0)) ∧ cur.size = cap ∧ ∀ i, i < n → ∃ b, cur[i]? = some (.bool b)
theorem BoolBlk.at_ {w : World} {g n cap : Nat} (h : BoolBlk w g n cap) (i : Nat) (hi : i < n) : ∃ b, w.cell? ⟨g, i, none⟩ = some (.bool b) := by
  obtain ⟨cur, hg, _, hb⟩ := h
  obtain ⟨b, hb⟩ := hb i hi
  exact ⟨b, by rw [cell_of_row w g _ cur _ _ hg, hb]⟩
theorem BoolBlk.free {w : World} {g n cap : Nat} (h : BoolBlk w g n cap) (i : Nat) : w.frozen? ⟨g, i, none⟩ = false := by
  obtain ⟨cur, hg, _⟩ := h
  exact Blk.frozen hg i
theorem BoolBlk.set_ {w : World} {g n cap : Nat} (h : BoolBlk w g n cap) (i : Nat) (x : Bool) : BoolBlk (w.setCell ⟨g, i, none⟩ (.bool x)) g n cap := by
  obtain ⟨cur, hg, hs, hb⟩ := h
  refine ⟨_, Blk.set_ hg i _, by simpa using hs, fun k hk => ?_⟩
  obtain ⟨b, hb⟩ := hb k hk
  have hlt := (Array.getElem?_eq_some_iff.1 hb).1
  by_cases e : i = k
  · subst e; exact ⟨x, by simp [hlt]⟩
  · exact ⟨b, by simp [e, hb]⟩
theorem own_blkO {w : World} {B n : Nat} {v : Value} {zs : List Bool} (hz : zs.length = n) (h : w.ownsRow B 4 1 v n (zs.map Value.bool)) :
    (v = .slice none 0 0 ∧ n = 0) ∨ ∃ g cap, v = .slice (some ⟨g, 0, none⟩) n cap ∧ B ≤ g ∧ n ≤ cap ∧ cap ≤ maxLen ∧ BoolBlk w g n cap := by
  rcases h.2 with h | ⟨g, cap, cur, hv, hb, hg, h1, h2, h3, h4⟩
  · exact .inl h
  · refine .inr ⟨g, cap, hv, hb, h1, h2, cur, hg, by simpa using h3, fun i hi => ?_⟩
    have e : cur.toList[i]? = (zs.map Value.bool)[i]? := by
      rw [← h4, List.getElem?_take, if_pos (by omega)]
    rw [← Array.getElem?_toList, e, List.getElem?_map, List.getElem?_eq_getElem (by omega)]
    exact ⟨_, rfl⟩
set_option maxHeartbeats 1000000 in
set_option maxRecDepth 100000 in
theorem SpoilO_any (w : World) (B n : Nat) (v : Value) (zs : List Bool) (hz : zs.length = n) (h : w.ownsRow B 4 1 v n (zs.map Value.bool)) : Calls Try.prog 18 #[v] w fun e w' => e = .returned (.tuple #[]) ∧ w.grownBy w' v.ownBlock := by
  rcases own_blkO hz h with ⟨rfl, rfl⟩ | ⟨g, cap, rfl, hB, h1, h2, hI⟩
  · clear h hz
    go_enter Try.func18, Try.ntmps18
    go_wp2
    go_loop [2] (fun i => i = .int .i64 0) (fun i => (intOf i).toNat)
    case atStart => exact rfl
    case round =>
      subst hrel
      go_wp2
      go_end0
      exact ⟨rfl, World.grownBy.refl w _⟩
  · clear h hz
    unfold maxLen at h2
    have HI := Lib.hid hI
    clear hI
    go_enter Try.func18, Try.ntmps18
    go_wp2
    go_loopw [2] (fun i wr => ∃ k : Nat, k ≤ n ∧ i = .int .i64 k ∧ BoolBlk wr g n cap ∧ w.grownBy wr (some g)) (fun i _ => n - (intOf i).toNat)
    case atStart => exact ⟨0, Nat.zero_le _, rfl, HI.out, World.grownBy.refl w _⟩
    case round =>
      obtain ⟨k, hk, rfl, hib, hbw⟩ := hrel
      have HIB := Lib.hid hib
      clear hib
      by_cases hlt : k < n
      · obtain ⟨u, hu⟩ := HIB.out.at_ k hlt
        have hf := HIB.out.free k
        go_wp2
        go_roundw
        case rel => exact ⟨k + 1, by omega, by go_num, HIB.out.set_ _ _, only_setL hbw _ _⟩
        case measure => simp [intOf]; omega
      · have : k = n := by omega
        subst this
        go_wp2
        go_end0
        exact ⟨rfl, hbw⟩
end Go.Proofs.Ytdladffjenfikaa

namespace Go.Proofs.Ytdladffjenfikaa
open Go.RowKit

theorem sl_form {E : Type} {k : Nat} {enc : E → List Value} {w : World} {v : Value} {zs : List E} (h : RowE k enc w v zs) : ∃ A n c, v = .slice A n c := by
  obtain ⟨A, c, e, _⟩ := h
  exact ⟨A, _, c, e⟩
theorem sl_formL {w : World} {v : Value} {zss : List (List Int)} (h : Lists w v zss) : ∃ A n c, v = .slice A n c := by
  obtain ⟨A, c, e, _⟩ := h.at_
  exact ⟨A, _, c, e⟩
set_option maxHeartbeats 20000000 in
set_option maxRecDepth 100000 in
theorem simStarts_walk (w : World) (V : CV) (C : Circ) (sv : Value) (st : List Bool) (h : C.In w V) (ok : C.Ok) (rm : C.Room ∧ C.Reach) (hs : RowE 1 encO w sv st) (hsb : st.length ≤ 140737488351232) :
    Calls Try.prog 4 #[V.val C.max, sv] w fun e w' => e = .returned (.bool true) ∧ Below w.heap.size w w' := by
  obtain ⟨rm, re⟩ := rm
  have hb0 := (Below.refl w.heap.size w).alloc (Nat.le_refl _) (.cells (V.cells C.max) 29)
  have HLEND := Lib.hid (LendCircuit_any (w.alloc (.cells (V.cells C.max) 29)) V C (h.below hb0) rm ⟨re.i, re.o, re.b, re.c, re.f, re.l, re.a⟩)
  have HIN0 := Lib.hid (h.below hb0)
  have HB0 := Lib.hid hb0
  have HS0 := Lib.hid hs
  have hbx0 := Blk.new w 29 (V.cells C.max)
  obtain ⟨sA, sn, sc, hse⟩ := slO_form hs
  subst hse
  obtain ⟨Vi, Vl, Vo, Vb, Vc, Vj, Vf, Va, Vs, Vt⟩ := V
  obtain ⟨m, hmm⟩ : ∃ m, C.max = m := ⟨_, rfl⟩
  have HLT := Lib.hid (fun (wx : World) (hx : RowE 1 encO wx (.slice sA sn sc) st) => lent_any wx _ st hx hsb)
  have HST := Lib.hid (fun (wx : World) (U : CV) (v : Value) (hx : C.In wx U) (hy : RowE 1 encO wx v st) => Starts_any wx U C v st hx ok hy)
  have HRST := Lib.hid (fun (wx : World) (hx : C.In wx ⟨Vi, Vl, Vo, Vb, Vc, Vj, Vf, Va, Vs, Vt⟩) (hy : RowE 1 encO wx (.slice sA sn sc) st) => rStarts_any wx _ C _ st hx ok re.t hy)
  have HKEPT := Lib.hid (fun (wx : World) (B : Nat) (V U : CV) (us : List Value) (hl : LentC wx B C us V) (hx : C.In wx U) => KeptCircuit_any wx B V U C us hl hx)
  have HSAME := Lib.hid (fun (wx : World) (v u : Value) (hx : RowE 1 encO wx v st) (hy : RowE 1 encO wx u st) => SameO_any wx v u st st hx hy)
  rw [decide_eq_true (rfl : st = st)] at HSAME
  rw [hmm] at HLEND HIN0 HB0 hbx0 HKEPT HST HRST
  rw [hmm]
  have HBX0 := Lib.hid hbx0
  obtain ⟨c0, c1, c2, c3, c4, c5, c6, c7, c8, c9, c10⟩ := rbox_of hbx0
  generalize startB C st = sb at *
  generalize startE C st = se at *
  clear h ok rm re hb0 hmm hbx0 hs hsb
  go_enter Try.func4, Try.ntmps4
  go_upto_region 2 with (first
    | (go_at_call 9; refine HLEND.out.mono ?_; rintro e w1 ⟨U, us, rfl, hb1, hl1⟩; obtain ⟨Ui, Ul, Uo, Ub, Uc, Uj, Uf, Ua, Us, Ut⟩ := U; obtain ⟨A0, n0, k0, hf0⟩ := sl_form hl1.in_.i; simp only at hf0; subst hf0; obtain ⟨A1, n1, k1, hf1⟩ := sl_form hl1.in_.l; simp only at hf1; subst hf1; obtain ⟨A2, n2, k2, hf2⟩ := sl_form hl1.in_.o; simp only at hf2; subst hf2; obtain ⟨A3, n3, k3, hf3⟩ := sl_form hl1.in_.b; simp only at hf3; subst hf3; obtain ⟨A4, n4, k4, hf4⟩ := sl_form hl1.in_.c; simp only at hf4; subst hf4; obtain ⟨A5, n5, k5, hf5⟩ := sl_formL hl1.in_.j; simp only at hf5; subst hf5; obtain ⟨A6, n6, k6, hf6⟩ := sl_form hl1.in_.f; simp only at hf6; subst hf6; obtain ⟨A7, n7, k7, hf7⟩ := sl_form hl1.in_.a; simp only at hf7; subst hf7; obtain ⟨A8, n8, k8, hf8⟩ := sl_form hl1.in_.s; simp only at hf8; subst hf8; obtain ⟨A9, n9, k9, hf9⟩ := sl_form hl1.in_.t; simp only at hf9; subst hf9; have HL1 := Lib.hid hl1; have HB1 := Lib.hid hb1; clear hb1 hl1 c0 c1 c2 c3 c4 c5 c6 c7 c8 c9 c10)
    | (go_at_call 10; refine (HLT.out _ ((HS0.out.below HB0.out).below HB1.out)).mono ?_; rintro e w2 ⟨lv, rfl, hlr, hb2⟩; obtain ⟨lA, ln, lc, hle⟩ := slO_form hlr; subst hle; have HLR := Lib.hid hlr; have HB2 := Lib.hid hb2; clear hlr hb2))
  have HALL : Hid (∀ wz, Below (w2.alloc (.cells #[.int .i64 m, .slice A0 n0 k0, .slice A1 n1 k1, .slice A2 n2 k2, .slice A3 n3 k3, .slice A4 n4 k4, .slice A5 n5 k5, .slice A6 n6 k6, .slice A7 n7 k7, .slice A8 n8 k8, .slice A9 n9 k9] 29)).heap.size (w2.alloc (.cells #[.int .i64 m, .slice A0 n0 k0, .slice A1 n1 k1, .slice A2 n2 k2, .slice A3 n3 k3, .slice A4 n4 k4, .slice A5 n5 k5, .slice A6 n6 k6, .slice A7 n7 k7, .slice A8 n8 k8, .slice A9 n9 k9] 29)) wz → Blk wz w.heap.size 29 #[.int .i64 m, Vi, Vl, Vo, Vb, Vc, Vj, Vf, Va, Vs, Vt] ∧ Blk wz w2.heap.size 29 #[.int .i64 m, .slice A0 n0 k0, .slice A1 n1 k1, .slice A2 n2 k2, .slice A3 n3 k3, .slice A4 n4 k4, .slice A5 n5 k5, .slice A6 n6 k6, .slice A7 n7 k7, .slice A8 n8 k8, .slice A9 n9 k9] ∧ C.In wz ⟨Vi, Vl, Vo, Vb, Vc, Vj, Vf, Va, Vs, Vt⟩ ∧ LentC wz (w.alloc (.cells #[.int .i64 m, Vi, Vl, Vo, Vb, Vc, Vj, Vf, Va, Vs, Vt] 29)).heap.size C us ⟨.slice A0 n0 k0, .slice A1 n1 k1, .slice A2 n2 k2, .slice A3 n3 k3, .slice A4 n4 k4, .slice A5 n5 k5, .slice A6 n6 k6, .slice A7 n7 k7, .slice A8 n8 k8, .slice A9 n9 k9⟩ ∧ RowE 1 encO wz (.slice sA sn sc) st ∧ RowE 1 encO wz (.slice lA ln lc) st ∧ Below w.heap.size w wz) := Lib.hid (fun wz hb => by
    have h2 : Below w2.heap.size w2 wz := bt ((Below.refl w2.heap.size w2).alloc (Nat.le_refl _) _) (Nat.le_refl _) hb
    have h3 : Below w1.heap.size w1 wz := bt HB2.out (Nat.le_refl _) h2
    have h4 : Below (w.alloc (.cells #[.int .i64 m, Vi, Vl, Vo, Vb, Vc, Vj, Vf, Va, Vs, Vt] 29)).heap.size (w.alloc (.cells #[.int .i64 m, Vi, Vl, Vo, Vb, Vc, Vj, Vf, Va, Vs, Vt] 29)) wz := bt HB1.out (Nat.le_refl _) h3
    have h5 := HB0.out.trans (h4.mono (by simp))
    exact ⟨HBX0.out.below h4 HBX0.out.lt, (Blk.new w2 _ _).below hb (by simp), HIN0.out.below h4, HL1.out.below h3, HS0.out.below h5, HLR.out.below h2, h5⟩)
  have HX : Hid (Below (w2.alloc (.cells #[.int .i64 m, .slice A0 n0 k0, .slice A1 n1 k1, .slice A2 n2 k2, .slice A3 n3 k3, .slice A4 n4 k4, .slice A5 n5 k5, .slice A6 n6 k6, .slice A7 n7 k7, .slice A8 n8 k8, .slice A9 n9 k9] 29)).heap.size (w2.alloc (.cells #[.int .i64 m, .slice A0 n0 k0, .slice A1 n1 k1, .slice A2 n2 k2, .slice A3 n3 k3, .slice A4 n4 k4, .slice A5 n5 k5, .slice A6 n6 k6, .slice A7 n7 k7, .slice A8 n8 k8, .slice A9 n9 k9] 29)) (w2.alloc (.cells #[.int .i64 m, .slice A0 n0 k0, .slice A1 n1 k1, .slice A2 n2 k2, .slice A3 n3 k3, .slice A4 n4 k4, .slice A5 n5 k5, .slice A6 n6 k6, .slice A7 n7 k7, .slice A8 n8 k8, .slice A9 n9 k9] 29))) := Lib.hid (Below.refl _ _)
  clear HL1 HB1 HB2 HLEND HLT HIN0 HB0 HBX0 HLR HS0
  generalize hg2 : w2.heap.size = g2 at *
  generalize w2.alloc (.cells #[.int .i64 m, .slice A0 n0 k0, .slice A1 n1 k1, .slice A2 n2 k2, .slice A3 n3 k3, .slice A4 n4 k4, .slice A5 n5 k5, .slice A6 n6 k6, .slice A7 n7 k7, .slice A8 n8 k8, .slice A9 n9 k9] 29) = X at *
  clear hg2
  obtain ⟨c0, c1, c2, c3, c4, c5, c6, c7, c8, c9, c10⟩ := rbox_of (HALL.out _ HX.out).1
  obtain ⟨d0, d1, d2, d3, d4, d5, d6, d7, d8, d9, d10⟩ := rbox_of (HALL.out _ HX.out).2.1
  go_wp2_with (first
    | (go_at_call 21; refine (HST.out _ _ _ (HALL.out _ HX.out).2.2.2.1.in_ (HALL.out _ HX.out).2.2.2.2.2.1).mono ?_; rintro e w3 ⟨rfl, hb⟩; have HXN := Lib.hid (bt HX.out (Nat.le_refl _) hb); clear HX hb c0 c1 c2 c3 c4 c5 c6 c7 c8 c9 c10 d0 d1 d2 d3 d4 d5 d6 d7 d8 d9 d10; have HX := HXN; clear HXN; obtain ⟨c0, c1, c2, c3, c4, c5, c6, c7, c8, c9, c10⟩ := rbox_of (HALL.out _ HX.out).1; obtain ⟨d0, d1, d2, d3, d4, d5, d6, d7, d8, d9, d10⟩ := rbox_of (HALL.out _ HX.out).2.1)
    | (go_at_call 22; refine (HRST.out _ (HALL.out _ HX.out).2.2.1 (HALL.out _ HX.out).2.2.2.2.1).mono ?_; rintro e w3 ⟨rfl, hb⟩; have HXN := Lib.hid (bt HX.out (Nat.le_refl _) hb); clear HX hb c0 c1 c2 c3 c4 c5 c6 c7 c8 c9 c10 d0 d1 d2 d3 d4 d5 d6 d7 d8 d9 d10; have HX := HXN; clear HXN; obtain ⟨c0, c1, c2, c3, c4, c5, c6, c7, c8, c9, c10⟩ := rbox_of (HALL.out _ HX.out).1; obtain ⟨d0, d1, d2, d3, d4, d5, d6, d7, d8, d9, d10⟩ := rbox_of (HALL.out _ HX.out).2.1)
    | (go_at_call 19; refine (HKEPT.out _ _ _ _ _ (HALL.out _ HX.out).2.2.2.1 (HALL.out _ HX.out).2.2.1).mono ?_; rintro e w3 ⟨rfl, hb⟩; have HXN := Lib.hid (bt HX.out (Nat.le_refl _) hb); clear HX hb c0 c1 c2 c3 c4 c5 c6 c7 c8 c9 c10 d0 d1 d2 d3 d4 d5 d6 d7 d8 d9 d10; have HX := HXN; clear HXN; obtain ⟨c0, c1, c2, c3, c4, c5, c6, c7, c8, c9, c10⟩ := rbox_of (HALL.out _ HX.out).1; obtain ⟨d0, d1, d2, d3, d4, d5, d6, d7, d8, d9, d10⟩ := rbox_of (HALL.out _ HX.out).2.1)
    | (go_at_call 17; refine (HSAME.out _ _ _ (HALL.out _ HX.out).2.2.2.2.2.1 (HALL.out _ HX.out).2.2.2.2.1).mono ?_; rintro e w3 ⟨rfl, hb⟩; have HXN := Lib.hid (bt HX.out (Nat.le_refl _) hb); clear HX hb c0 c1 c2 c3 c4 c5 c6 c7 c8 c9 c10 d0 d1 d2 d3 d4 d5 d6 d7 d8 d9 d10; have HX := HXN; clear HXN; obtain ⟨c0, c1, c2, c3, c4, c5, c6, c7, c8, c9, c10⟩ := rbox_of (HALL.out _ HX.out).1; obtain ⟨d0, d1, d2, d3, d4, d5, d6, d7, d8, d9, d10⟩ := rbox_of (HALL.out _ HX.out).2.1)
    | (go_at_call 20; refine (worksS_any _).mono ?_; rintro e w3 ⟨rfl, hb⟩; have HXN := Lib.hid (bt HX.out (Nat.le_refl _) hb); clear HX hb c0 c1 c2 c3 c4 c5 c6 c7 c8 c9 c10 d0 d1 d2 d3 d4 d5 d6 d7 d8 d9 d10; have HX := HXN; clear HXN; obtain ⟨c0, c1, c2, c3, c4, c5, c6, c7, c8, c9, c10⟩ := rbox_of (HALL.out _ HX.out).1; obtain ⟨d0, d1, d2, d3, d4, d5, d6, d7, d8, d9, d10⟩ := rbox_of (HALL.out _ HX.out).2.1))
  go_ret
  exact ⟨rfl, (HALL.out _ HX.out).2.2.2.2.2.2⟩
end Go.Proofs.Ytdladffjenfikaa
