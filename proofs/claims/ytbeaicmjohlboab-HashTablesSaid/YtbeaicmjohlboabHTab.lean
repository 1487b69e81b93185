/- The walk of HashTables: for whatever three numbers the statement's Go function answers true, and nothing that was there has turned. -/
import Derived.Test.YtbeaicmjohlboabHshD
import Derived.Test.YtbeaicmjohlboabSimE
namespace Go.Proofs.Ytbeaicmjohlboab
open Go.RowKit Go.Maps

def tabOk (s x y : Nat) : Bool :=
  let r1 := (bdN 3 0).Or (x : Int) (y : Int)
  let r2 := r1.2.Xor (x : Int) (y : Int)
  let r3 := r2.2.Mux (s : Int) (x : Int) (y : Int)
  r1.1.2 == 0 && r2.1.2 == 0 && r3.1.2 == 0 && decide (r3.2.g.length ≤ 7)
theorem tab_all : (List.range 8).all (fun s => (List.range 8).all fun x => (List.range 8).all fun y => tabOk s x y) = true := by decide +kernel
theorem tab_ok {s x y : Nat} (hs : s < 8) (hx : x < 8) (hy : y < 8) : tabOk s x y = true := by
  have h1 := List.all_eq_true.1 tab_all s (List.mem_range.2 hs)
  have h2 := List.all_eq_true.1 h1 x (List.mem_range.2 hx)
  exact List.all_eq_true.1 h2 y (List.mem_range.2 hy)
/-- A circuit of three inputs and a builder's gates. -/
def tabC (b : Bd) : Circ := { max := (b.last : Int), inputs := [2, 4, 6], latches := [], outputs := [], bads := [], constraints := [], justice := [], fairness := [], ands := b.tris, symbols := [], comments := [] }
theorem tabC_seq {b : Bd} (hb : b.Ok) (hi : b.i = 3) (hl : b.l = 0) : Seq (tabC b) := by
  have hlast : b.last = 3 + b.g.length := by unfold Bd.last; omega
  have h16 := hb.last
  have hd : defsL (tabC b) = [2, 4, 6] ++ b.tris.map (·.1) := by simp [defsL, tabC]
  refine ⟨fun k l hk => ?_, ?_, by show (b.last : Int) ≤ 16384; omega, fun z hz => absurd hz (by simp [tabC]), fun l h => absurd h (by simp [tabC]), fun l h => absurd h (by simp [tabC]), fun l h => absurd h (by simp [tabC]), fun l h => absurd h (by simp [tabC]), fun l h => absurd h (by simp [tabC]), fun k z hz => ?_, fun x hx => ?_, rfl, rfl⟩
  · rw [hd] at hk
    rcases Nat.lt_or_ge k 3 with h | h
    · rw [List.getElem?_append_left (by simpa using h)] at hk
      match k, h with
      | 0, _ => simp at hk; omega
      | 1, _ => simp at hk; omega
      | 2, _ => simp at hk; omega
    · rw [List.getElem?_append_right (by simpa using h), List.getElem?_map] at hk
      obtain ⟨z, hz, rfl⟩ := Option.map_eq_some_iff.1 hk
      obtain ⟨p, _, rfl⟩ := tris_at.1 hz
      simp only [List.length_cons, List.length_nil] at *
      unfold Bd.out
      omega
  · show (b.last : Int) = _
    simp [tabC, tris_len]
    omega
  · obtain ⟨p, hp, rfl⟩ := tris_at.1 hz
    have := hb.fit k p hp
    simp only
    omega
  · simp [sizesL, tabC, tris_len, sumW] at hx
    omega
theorem tabC_sem {b : Bd} (hb : b.Ok) (hi : b.i = 3) (hl : b.l = 0) {row T : List Bool} (hv : ValOk (tabC b) [] row T) : b.Sem T := by
  obtain ⟨h1, h2⟩ := (tabC_seq hb hi hl).sem hv
  refine ⟨h1, fun k p hp => ?_⟩
  have := h2 k (b.out k, p) (tris_at.2 ⟨p, hp, rfl⟩)
  rw [hi, hl]
  exact this
theorem int8 {s : Int} : ∃ q : Nat, q < 8 ∧ (s % 18446744073709551616).tmod 8 = (q : Int) := ⟨(s % 8).toNat, by omega, by rw [Int.tmod_eq_emod_of_nonneg (by omega)]; omega⟩

theorem rowe_nilH {E : Type} {k : Nat} {enc : E → List Value} {w : World} {A : Option Addr} : RowE k enc w (.slice A 0 0) ([] : List E) := RowE.nil w A 0 (by simp [maxLen])
theorem lists_nilH {w : World} : Lists w (.slice none 0 0) [] := ⟨[], rowe_nilH, rfl, fun i u zs hu _ => by simp at hu⟩

set_option maxHeartbeats 20000000 in
set_option maxRecDepth 100000 in
theorem hashTables_walk (w : World) (s x y : Int) :
    Calls Try.prog 7 #[.int .i64 s, .int .i64 x, .int .i64 y] w fun e w' => e = .returned (.bool true) ∧ Below w.heap.size w w' := by
  obtain ⟨S, hS, es⟩ := int8 (s := s)
  obtain ⟨X, hX, ex⟩ := int8 (s := x)
  obtain ⟨Y, hY, ey⟩ := int8 (s := y)
  have cs : IntKind.u64.wrap s = s % 18446744073709551616 := by simp [IntKind.wrap, IntKind.bits, IntKind.signed]
  have cx : IntKind.u64.wrap x = x % 18446744073709551616 := by simp [IntKind.wrap, IntKind.bits, IntKind.signed]
  have cy : IntKind.u64.wrap y = y % 18446744073709551616 := by simp [IntKind.wrap, IntKind.bits, IntKind.signed]
  obtain ⟨us, hus⟩ : ∃ u, s % 18446744073709551616 = u := ⟨_, rfl⟩
  obtain ⟨ux, hux⟩ : ∃ u, x % 18446744073709551616 = u := ⟨_, rfl⟩
  obtain ⟨uy, huy⟩ : ∃ u, y % 18446744073709551616 = u := ⟨_, rfl⟩
  rw [hus] at es cs
  rw [hux] at ex cx
  rw [huy] at ey cy
  have ws : IntKind.u64.wrap (S : Int) = (S : Int) := by simp [IntKind.wrap, IntKind.bits, IntKind.signed]; omega
  have wx : IntKind.u64.wrap (X : Int) = (X : Int) := by simp [IntKind.wrap, IntKind.bits, IntKind.signed]; omega
  have wy : IntKind.u64.wrap (Y : Int) = (Y : Int) := by simp [IntKind.wrap, IntKind.bits, IntKind.signed]; omega
  have vs : IntKind.i64.wrap (S : Int) = (S : Int) := by simp [IntKind.wrap, IntKind.bits, IntKind.signed]; omega
  have vx : IntKind.i64.wrap (X : Int) = (X : Int) := by simp [IntKind.wrap, IntKind.bits, IntKind.signed]; omega
  have vy : IntKind.i64.wrap (Y : Int) = (Y : Int) := by simp [IntKind.wrap, IntKind.bits, IntKind.signed]; omega
  have htab := tab_ok hS hX hY
  have hnb : newB 3 0 = true := by decide
  have hok0 := bdN_ok hnb
  obtain ⟨r1, hr1⟩ : ∃ r, (bdN 3 0).Or (X : Int) (Y : Int) = r := ⟨_, rfl⟩
  obtain ⟨r2, hr2⟩ : ∃ r, r1.2.Xor (X : Int) (Y : Int) = r := ⟨_, rfl⟩
  obtain ⟨r3, hr3⟩ : ∃ r, r2.2.Mux (S : Int) (X : Int) (Y : Int) = r := ⟨_, rfl⟩
  unfold tabOk at htab
  simp only [hr1, hr2, hr3, Bool.and_eq_true, beq_iff_eq, decide_eq_true_eq] at htab
  obtain ⟨⟨⟨t1, t2⟩, t3⟩, t4⟩ := htab
  have k1 := Or_any hok0 (X : Int) (Y : Int)
  rw [hr1] at k1
  have k2 := xor_any k1.ok (X : Int) (Y : Int)
  rw [hr2] at k2
  have k3 := mux_any k2.ok (S : Int) (X : Int) (Y : Int)
  rw [hr3] at k3
  have hi3 : r3.2.i = 3 := k3.i.trans (k2.i.trans k1.i)
  have hl3 : r3.2.l = 0 := k3.l.trans (k2.l.trans k1.l)
  have hseq := tabC_seq k3.ok hi3 hl3
  have HOK3 := Lib.hid k3.ok
  have h3 : ∀ q : Nat, q < 8 → (bdN 3 0).has (q : Int) = true := fun q hq => has_iff.2 (by show 0 ≤ (q : Int) ∧ (q : Int) ≤ 7; omega)
  have HLIT : Hid (∀ (T : List Bool) (row : List Bool), ValOk (tabC r3.2) [] row T → litV T r1.1.1 = (litV T X || litV T Y) ∧ litV T r2.1.1 = (litV T X != litV T Y) ∧ litV T r3.1.1 = bif litV T S then litV T X else litV T Y) := Lib.hid (fun T row hv => by
    have s3 := tabC_sem k3.ok hi3 hl3 hv
    have s2 := Sem.mono s3 k3.i k3.l k3.pre
    have s1 := Sem.mono s2 k2.i k2.l k2.pre
    have hOr : (bdN 3 0).Or (X : Int) (Y : Int) = (bdN 3 0).or_ X Y := by unfold Bd.Or; rw [if_pos ⟨h3 X hX, h3 Y hY⟩]
    have q1 := or_sem (b := bdN 3 0) (T := T) (x := X) (y := Y) (by rw [← hOr, hr1]; exact s1) (by rw [← hOr, hr1]; exact t1)
    rw [← hOr, hr1] at q1
    have q2 := xor_sem k1.ok (T := T) (x := X) (y := Y) (by rw [hr2]; exact s2) (by rw [hr2]; exact t2)
    rw [hr2] at q2
    have q3 := mux_sem k2.ok (T := T) (s := S) (x := X) (y := Y) (by rw [hr3]; exact s3) (by rw [hr3]; exact t3)
    rw [hr3] at q3
    exact ⟨q1, q2, q3⟩)
  have HCK := Lib.hid hseq.check
  have HORD := Lib.hid hseq.ord
  have HRNG := Lib.hid (And.intro (And_rng hok0 k1) (And.intro (And_rng k1.ok k2) (And_rng k2.ok k3)))
  have HHAS : Hid (∀ l : Int, r3.2.has l = true → l / 2 < ((r3.2.last + 1 : Nat) : Int)) := Lib.hid (fun l hl => by have := has_iff.1 hl; push_cast; omega)
  have hmono12 : r1.2.last ≤ r2.2.last := by unfold Bd.last; rw [k2.i, k2.l]; have := k2.pre.length_le; omega
  have hmono23 : r2.2.last ≤ r3.2.last := by unfold Bd.last; rw [k3.i, k3.l]; have := k3.pre.length_le; omega
  have hlast3 : r3.2.last = 3 + r3.2.g.length := by unfold Bd.last; omega
  have b1 : 0 ≤ r1.1.1 ∧ r1.1.1 ≤ 2 * (r3.2.last : Int) + 1 := by
    rcases k1.err with ⟨_, q⟩ | ⟨q, _⟩ | ⟨q, _⟩
    · have := has_iff.1 q; omega
    · omega
    · omega
  have b2 : 0 ≤ r2.1.1 ∧ r2.1.1 ≤ 2 * (r3.2.last : Int) + 1 := by
    rcases k2.err with ⟨_, q⟩ | ⟨q, _⟩ | ⟨q, _⟩
    · have := has_iff.1 q; omega
    · omega
    · omega
  have b3 : 0 ≤ r3.1.1 ∧ r3.1.1 ≤ 2 * (r3.2.last : Int) + 1 := by
    rcases k3.err with ⟨_, q⟩ | ⟨q, _⟩ | ⟨q, _⟩
    · have := has_iff.1 q; omega
    · omega
    · omega
  have hmax : (tabC r3.2).max = 3 + (r3.2.g.length : Int) := by show (r3.2.last : Int) = _; rw [hlast3]; push_cast; rfl
  rw [hlast3] at b1 b2 b3
  obtain ⟨xi, hxi⟩ : ∃ z : Int, (X : Int) = z := ⟨_, rfl⟩
  obtain ⟨yi, hyi⟩ : ∃ z : Int, (Y : Int) = z := ⟨_, rfl⟩
  obtain ⟨si, hsi⟩ : ∃ z : Int, (S : Int) = z := ⟨_, rfl⟩
  rw [hxi] at hr1 hr2 hr3 HLIT ex wx vx
  rw [hyi] at hr1 hr2 hr3 HLIT ey wy vy
  rw [hsi] at hr3 HLIT es ws vs
  have xr : 0 ≤ xi ∧ xi ≤ 7 := by omega
  have yr : 0 ≤ yi ∧ yi ≤ 7 := by omega
  have sr : 0 ≤ si ∧ si ≤ 7 := by omega
  have HOR := Lib.hid (fun (wz : World) (bx : Nat) (F : Nat → Prop) (h : HB wz bx (bdN 3 0) F) => (show Calls Try.prog 29 #[.pointer (some ⟨bx, 0, none⟩), .int .i64 xi, .int .i64 yi] wz fun e w' => e = .returned (.tuple #[.int .i64 r1.1.1, .int .i64 0]) ∧ Did wz w' bx F r1.2 from by
    have := hOr_any wz bx _ F xi yi h (by unfold I64; omega) (by unfold I64; omega)
    rw [hr1, t1] at this
    exact this))
  have HXO := Lib.hid (fun (wz : World) (bx : Nat) (F : Nat → Prop) (h : HB wz bx r1.2 F) => (show Calls Try.prog 30 #[.pointer (some ⟨bx, 0, none⟩), .int .i64 xi, .int .i64 yi] wz fun e w' => e = .returned (.tuple #[.int .i64 r2.1.1, .int .i64 0]) ∧ Did wz w' bx F r2.2 from by
    have := hXor_any wz bx _ F xi yi h (by unfold I64; omega) (by unfold I64; omega)
    rw [hr2, t2] at this
    exact this))
  have HMU := Lib.hid (fun (wz : World) (bx : Nat) (F : Nat → Prop) (h : HB wz bx r2.2 F) => (show Calls Try.prog 31 #[.pointer (some ⟨bx, 0, none⟩), .int .i64 si, .int .i64 xi, .int .i64 yi] wz fun e w' => e = .returned (.tuple #[.int .i64 r3.1.1, .int .i64 0]) ∧ Did wz w' bx F r3.2 from by
    have := hMux_any wz bx _ F si xi yi h (by unfold I64; omega) (by unfold I64; omega) (by unfold I64; omega)
    rw [hr3, t3] at this
    exact this))
  have HSZ := Lib.hid (fun (wz : World) (bx : Nat) (F : Nat → Prop) (h : HB wz bx r3.2 F) => hSize_any wz bx r3.2 F h)
  have HGA := Lib.hid (fun (wz : World) (bx : Nat) (F : Nat → Prop) (h : HB wz bx r3.2 F) => hGates_any wz bx r3.2 F h)
  rw [tris_len] at HGA
  have HAI : Hid ((tabC r3.2).ands = r3.2.tris) := Lib.hid rfl
  have HCOK : Hid ((tabC r3.2).Ok) := Lib.hid (by
    have h7 := hseq.m1
    have h8 := hseq.fine
    have hm0 := h8.m0
    refine ⟨by unfold I64; omega, fun z hz => by simp [tabC] at hz; unfold I64; rcases hz with e | e | e <;> omega, fun z hz => absurd hz (by simp [tabC]), fun z hz => absurd hz (by simp [tabC]), fun z hz => absurd hz (by simp [tabC]), fun z hz => absurd hz (by simp [tabC]), fun z hz => absurd hz (by simp [tabC]), fun z hz => absurd hz (by simp [tabC]), fun z hz => ?_, fun z hz => absurd hz (by simp [tabC]), fun z hz => absurd hz (by simp [tabC])⟩
    obtain ⟨k, hk⟩ := List.getElem?_of_mem hz
    have q1 := hseq.at_ hk
    have q2 := hseq.a k z hk
    have q3 := hseq.lit hk
    unfold LitOk at q3
    have q4 := (List.getElem?_eq_some_iff.1 hk).1
    have q5 := hseq.m
    unfold I64T I64
    omega)
  obtain ⟨n3, hn3⟩ : ∃ n, r3.2.g.length = n := ⟨_, rfl⟩
  have HN3 := Lib.hid hn3
  rw [hn3] at t4 hmax HSZ HGA b1 b2 b3
  have HMAX := Lib.hid hmax
  have HVAL := Lib.hid (fun (wz : World) (V : CV) (rv : Value) (row : List Bool) (h : (tabC r3.2).In wz V) (hr : RowE 1 encO wz rv row) => Values_any wz V (tabC r3.2) (.slice none 0 0) rv [] row (intRange (tabC r3.2).ands.length) h HCOK.out rowe_nilH hr (fun _ => HORD.out))
  have HVO := Lib.hid (fun (row : List Bool) (h : row.length = 3) => valOk (O := intRange (tabC r3.2).ands.length) (st := []) (row := row) HCK.out HORD.out rfl h)
  have HFE := Lib.hid (fun (row : List Bool) (h : row.length = 3) => fitE_yes (C := tabC r3.2) (st := []) (row := row) HCK.out rfl h)
  have HVL := Lib.hid (fun (row : List Bool) => valF_len (tabC r3.2) (intRange (tabC r3.2).ands.length) [] row)
  rw [hmax] at HVAL HVL
  have hmt : (3 + (n3 : Int)).toNat + 1 = n3 + 4 := by omega
  rw [hmt] at HVAL HVL
  have HWK := Lib.hid (worksH_any w)
  have HNW := Lib.hid (fun wz => hNew_any wz 3 0)
  generalize hC : tabC r3.2 = C3 at *
  have HC3 := Lib.hid hC
  obtain ⟨o1, ho1⟩ : ∃ z, r1.1.1 = z := ⟨_, rfl⟩
  obtain ⟨o2, ho2⟩ : ∃ z, r2.1.1 = z := ⟨_, rfl⟩
  obtain ⟨o3, ho3⟩ : ∃ z, r3.1.1 = z := ⟨_, rfl⟩
  rw [ho1] at HOR HLIT b1
  rw [ho2] at HXO HLIT b2
  rw [ho3] at HMU HLIT b3
  have HSR := Lib.hid (And.intro sr (And.intro xr (And.intro yr (And.intro b1 (And.intro b2 b3)))))
  clear hmono12 hmono23 hlast3 b1 b2 b3 hmax hxi hyi hsi xr yr sr hn3 hmt hC ho1 ho2 ho3 hr1 hr2 hr3 t1 t2 t3 k1 k2 k3 hi3 hl3 hseq h3 hS hX hY hok0 hnb HRNG HHAS HOK3 HAI
  have HUS := Lib.hid (And.intro hus (And.intro hux huy))
  clear hus hux huy
  go_enter Try.func7, Try.ntmps7
  go_upto_region 3 with (go_at_call 10; refine HWK.out.mono ?_; rintro e w1 ⟨rfl, hb⟩; have HB1 := Lib.hid hb; clear hb)
  go_upto_region 4 with (go_at_call 8; refine (HNW.out _).mono ?_; rintro e w2 ⟨hb2, hyes, _⟩; obtain ⟨bx, F, rfl, hh, hf⟩ := hyes (by decide); have HB2 := Lib.hid (And.intro (bt HB1.out (Nat.le_refl _) hb2) (fun k hk => Nat.le_trans HB1.out.size (hf k hk))); have HH2 := Lib.hid hh; clear hb2 hyes hh hf)
  go_upto_region 8 with (go_at_call 29; refine (HOR.out _ _ _ HH2.out).mono ?_; rintro e w3 ⟨rfl, F3, h3, hu3, hf3⟩; have HH3 := Lib.hid h3; have HU3 := Lib.hid (And.intro hu3 hf3); clear h3 hu3 hf3)
  go_upto_region 9 with (go_at_call 30; refine (HXO.out _ _ _ HH3.out).mono ?_; rintro e w4 ⟨rfl, hd4⟩; obtain ⟨F4, h4, hu4, hf4⟩ := Did.step HU3.out.1 HU3.out.2 hd4; have HH4 := Lib.hid h4; have HU4 := Lib.hid (And.intro hu4 hf4); clear hd4 h4 hu4 hf4)
  go_upto_region 10 with (go_at_call 31; refine (HMU.out _ _ _ HH4.out).mono ?_; rintro e w5 ⟨rfl, hd5⟩; obtain ⟨F5, h5, hu5, hf5⟩ := Did.step HU4.out.1 HU4.out.2 hd5; have HH5 := Lib.hid h5; have HB5 := Lib.hid (HB2.out.1.trans (hu5.below HB2.out.1.size HB2.out.2)); clear hd5 h5 hu5 hf5)
  clear HH2 HH3 HH4 HU3 HU4 HB1 HB2 HOR HXO HMU HNW HWK cs cx cy es ex ey ws wx wy vs vx vy
  have hw3 : IntKind.i64.wrap (3 + (n3 : Int)) = 3 + (n3 : Int) := by simp [IntKind.wrap, IntKind.bits, IntKind.signed]; omega
  have HBI : Hid (Below w5.heap.size w5 (w5.alloc (.cells #[.int .i64 2, .int .i64 4, .int .i64 6] 3))) := Lib.hid ((Below.refl _ _).alloc (Nat.le_refl _) _)
  have HGI : Hid (Nums (w5.alloc (.cells #[.int .i64 2, .int .i64 4, .int .i64 6] 3)) w5.heap.size [2, 4, 6]) := Lib.hid (Blk.new w5 _ _)
  have hbld : ∀ (A1 A2 : Option Addr) (n c : Nat) (wz : World), (Instr.build 51 #[(0, .int .i64 (3 + (n3 : Int))), (1, .slice A1 3 3), (8, .slice A2 n c)]).run Try.prog wz = .ok (.agg #[.int .i64 (3 + (n3 : Int)), .slice A1 3 3, .slice none 0 0, .slice none 0 0, .slice none 0 0, .slice none 0 0, .slice none 0 0, .slice none 0 0, .slice A2 n c, .slice none 0 0, .slice none 0 0]) wz := fun A1 A2 n c wz => run_build wz _ _ _ (by kernel_rfl)
  go_upto_region 13 with (first
    | (go_at_call 12; refine (HSZ.out _ _ _ HH5.out).mono ?_; rintro e w6 ⟨rfl, hw6⟩; rw [hw6]; clear hw6 w6)
    | (go_at_call 13; refine (HGA.out _ _ _ (HH5.out.below HBI.out)).mono ?_; rintro e w7 ⟨hb7, v7, rfl, ho7⟩; obtain ⟨A7, c7, hv7⟩ := own_slice_k ho7; subst hv7; have HO7 := Lib.hid ho7; have HB7 := Lib.hid hb7; clear ho7 hb7))
  have HIN : Hid (C3.In w7 ⟨.slice (some ⟨w5.heap.size, 0, none⟩) 3 3, .slice none 0 0, .slice none 0 0, .slice none 0 0, .slice none 0 0, .slice none 0 0, .slice none 0 0, .slice A7 n3 c7, .slice none 0 0, .slice none 0 0⟩) := Lib.hid (by
    rw [← HC3.out]
    refine ⟨nums_row (T := [2, 4, 6]) (Blk.below HGI.out HB7.out (Blk.lt HGI.out)) (by simp [maxLen]), rowe_nilH, rowe_nilH, rowe_nilH, rowe_nilH, lists_nilH, rowe_nilH, ?_, rowe_nilH, rowe_nilH⟩
    have h7 : ∃ B, w7.ownsRow B 43 3 (.slice A7 n3 c7) r3.2.tris.length (r3.2.tris.flatMap encT) := ⟨_, by rw [tris_len, HN3.out]; exact HO7.out⟩
    obtain ⟨B, h7⟩ := h7
    exact own_rowe lenT h7)
  have HB8 : Hid (Below w7.heap.size w7 (w7.alloc (.cells #[.int .i64 (3 + (n3 : Int)), .slice (some ⟨w5.heap.size, 0, none⟩) 3 3, .slice none 0 0, .slice none 0 0, .slice none 0 0, .slice none 0 0, .slice none 0 0, .slice none 0 0, .slice A7 n3 c7, .slice none 0 0, .slice none 0 0] 51))) := Lib.hid ((Below.refl _ _).alloc (Nat.le_refl _) _)
  have HBC : Hid (Blk (w7.alloc (.cells #[.int .i64 (3 + (n3 : Int)), .slice (some ⟨w5.heap.size, 0, none⟩) 3 3, .slice none 0 0, .slice none 0 0, .slice none 0 0, .slice none 0 0, .slice none 0 0, .slice none 0 0, .slice A7 n3 c7, .slice none 0 0, .slice none 0 0] 51)) w7.heap.size 51 #[.int .i64 (3 + (n3 : Int)), .slice (some ⟨w5.heap.size, 0, none⟩) 3 3, .slice none 0 0, .slice none 0 0, .slice none 0 0, .slice none 0 0, .slice none 0 0, .slice none 0 0, .slice A7 n3 c7, .slice none 0 0, .slice none 0 0]) := Lib.hid (Blk.new w7 _ _)
  have HLOW : Hid (Below w.heap.size w w7) := Lib.hid (bt HB5.out (Nat.le_refl _) (bt HBI.out (Nat.le_refl _) HB7.out))
  generalize w5.heap.size = gi at *
  generalize w7.alloc (.cells #[.int .i64 (3 + (n3 : Int)), .slice (some ⟨gi, 0, none⟩) 3 3, .slice none 0 0, .slice none 0 0, .slice none 0 0, .slice none 0 0, .slice none 0 0, .slice none 0 0, .slice A7 n3 c7, .slice none 0 0, .slice none 0 0] 51) = W8 at *
  have HALL : Hid (∀ wz, Below W8.heap.size W8 wz → Blk wz w7.heap.size 51 #[.int .i64 (3 + (n3 : Int)), .slice (some ⟨gi, 0, none⟩) 3 3, .slice none 0 0, .slice none 0 0, .slice none 0 0, .slice none 0 0, .slice none 0 0, .slice none 0 0, .slice A7 n3 c7, .slice none 0 0, .slice none 0 0] ∧ C3.In wz ⟨.slice (some ⟨gi, 0, none⟩) 3 3, .slice none 0 0, .slice none 0 0, .slice none 0 0, .slice none 0 0, .slice none 0 0, .slice none 0 0, .slice A7 n3 c7, .slice none 0 0, .slice none 0 0⟩ ∧ Below w.heap.size w wz) := Lib.hid (fun wz hb => by
    have h7 := bt HB8.out (Nat.le_refl _) hb
    exact ⟨HBC.out.below hb HBC.out.lt, HIN.out.below h7, bt HLOW.out (Nat.le_refl _) h7⟩)
  generalize w7.heap.size = bc at *
  have HB0 : Hid (Below W8.heap.size W8 W8) := Lib.hid (Below.refl _ _)
  clear HIN HB8 HBC HLOW HO7 HB7 HGI HBI HSZ HGA HH5 HB5 hbld hw3
  go_wp2
  go_loopg [16] 8 (fun j iv wx => ∃ k : Nat, k ≤ 8 ∧ j = 8 - k ∧ iv = .int .i64 k ∧ Below W8.heap.size W8 wx)
  case atStart => exact ⟨0, Nat.zero_le _, rfl, rfl, HB0.out⟩
  case round =>
    obtain ⟨k, hk, hgk, rfl, hbx⟩ := hrel
    subst hgk
    clear HB0
    have HBX := Lib.hid hbx
    by_cases hlt : k < 8
    · have hki : (k : Int) < 8 := by omega
      have e1 : (k : Int).tmod 2 = (k : Int) % 2 := Int.tmod_eq_emod_of_nonneg (by omega)
      have e2 : (k : Int).tdiv 2 = (k : Int) / 2 := tdiv_nn (by omega)
      have e3 : ((k : Int) / 2).tmod 2 = (k : Int) / 2 % 2 := Int.tmod_eq_emod_of_nonneg (by omega)
      have e4 : (k : Int).tdiv 4 = (k : Int) / 4 := tdiv_nn (by omega)
      have f1 : IntKind.i64.wrap ((k : Int) % 2) = (k : Int) % 2 := by simp [IntKind.wrap, IntKind.bits, IntKind.signed]; omega
      have f2 : IntKind.i64.wrap ((k : Int) / 2) = (k : Int) / 2 := by simp [IntKind.wrap, IntKind.bits, IntKind.signed]; omega
      have f3 : IntKind.i64.wrap ((k : Int) / 2 % 2) = (k : Int) / 2 % 2 := by simp [IntKind.wrap, IntKind.bits, IntKind.signed]; omega
      have f4 : IntKind.i64.wrap ((k : Int) / 4) = (k : Int) / 4 := by simp [IntKind.wrap, IntKind.bits, IntKind.signed]; omega
      obtain ⟨a1, ha1⟩ : ∃ z : Int, (k : Int) % 2 = z := ⟨_, rfl⟩
      obtain ⟨a2, ha2⟩ : ∃ z : Int, (k : Int) / 2 = z := ⟨_, rfl⟩
      rw [ha2] at e2 e3 f2 f3
      obtain ⟨a3, ha3⟩ : ∃ z : Int, a2 % 2 = z := ⟨_, rfl⟩
      obtain ⟨a4, ha4⟩ : ∃ z : Int, (k : Int) / 4 = z := ⟨_, rfl⟩
      rw [ha1] at e1 f1
      rw [ha3] at e3 f3
      rw [ha4] at e4 f4
      obtain ⟨p1, hp1⟩ : ∃ b : Bool, (a1 == 1) = b := ⟨_, rfl⟩
      obtain ⟨p2, hp2⟩ : ∃ b : Bool, (a3 == 1) = b := ⟨_, rfl⟩
      obtain ⟨p3, hp3⟩ : ∃ b : Bool, (a4 == 1) = b := ⟨_, rfl⟩
      have hbA : Below wr.heap.size wr (wr.alloc (.cells #[.bool p1, .bool p2, .bool p3] 4)) := (Below.refl _ _).alloc (Nat.le_refl _) _
      have htb : Tab (wr.alloc (.cells #[.bool p1, .bool p2, .bool p3] 4)) wr.heap.size [p1, p2, p3] := Blk.new wr _ _
      have hval := HVAL.out _ _ _ [p1, p2, p3] (HALL.out _ (bt hbx (Nat.le_refl _) hbA)).2.1 (tabT_row htb (by simp [maxLen]))
      rw [HFE.out [p1, p2, p3] rfl] at hval
      have hvo := HVO.out [p1, p2, p3] rfl
      have hvl := HVL.out [p1, p2, p3]
      obtain ⟨T, hT⟩ : ∃ T, valF C3 (intRange C3.ands.length) [] [p1, p2, p3] = T := ⟨_, rfl⟩
      rw [hT] at hval hvo hvl
      have hlit := HLIT.out T _ hvo
      have hsr := HSR.out
      have HL := Lib.hid (fun (wz : World) (g : Nat) (l : Int) (h : Tab wz g T) (h0 : 0 ≤ l) (h1 : l / 2 < ((n3 + 4 : Nat) : Int)) => litH_any wz g (n3 + 4) T l h hvl h0 h1 (by omega))
      obtain ⟨px, hpx⟩ : ∃ b, litV T xi = b := ⟨_, rfl⟩
      obtain ⟨py, hpy⟩ : ∃ b, litV T yi = b := ⟨_, rfl⟩
      obtain ⟨ps, hps⟩ : ∃ b, litV T si = b := ⟨_, rfl⟩
      rw [hpx, hpy, hps] at hlit
      have HX := Lib.hid (fun (wz : World) (g : Nat) (h : Tab wz g T) => (show Calls Try.prog 24 #[.slice (some ⟨g, 0, none⟩) (n3 + 4) (n3 + 4), .int .i64 xi] wz fun e w' => e = .returned (.bool px) ∧ w' = wz from by rw [← hpx]; exact HL.out wz g xi h (by omega) (by push_cast; omega)))
      have HY := Lib.hid (fun (wz : World) (g : Nat) (h : Tab wz g T) => (show Calls Try.prog 24 #[.slice (some ⟨g, 0, none⟩) (n3 + 4) (n3 + 4), .int .i64 yi] wz fun e w' => e = .returned (.bool py) ∧ w' = wz from by rw [← hpy]; exact HL.out wz g yi h (by omega) (by push_cast; omega)))
      have HS := Lib.hid (fun (wz : World) (g : Nat) (h : Tab wz g T) => (show Calls Try.prog 24 #[.slice (some ⟨g, 0, none⟩) (n3 + 4) (n3 + 4), .int .i64 si] wz fun e w' => e = .returned (.bool ps) ∧ w' = wz from by rw [← hps]; exact HL.out wz g si h (by omega) (by push_cast; omega)))
      have H1 := Lib.hid (fun (wz : World) (g : Nat) (h : Tab wz g T) => (show Calls Try.prog 24 #[.slice (some ⟨g, 0, none⟩) (n3 + 4) (n3 + 4), .int .i64 o1] wz fun e w' => e = .returned (.bool (px || py)) ∧ w' = wz from by rw [← hlit.1]; exact HL.out wz g o1 h (by omega) (by push_cast; omega)))
      have H2 := Lib.hid (fun (wz : World) (g : Nat) (h : Tab wz g T) => (show Calls Try.prog 24 #[.slice (some ⟨g, 0, none⟩) (n3 + 4) (n3 + 4), .int .i64 o2] wz fun e w' => e = .returned (.bool (px != py)) ∧ w' = wz from by rw [← hlit.2.1]; exact HL.out wz g o2 h (by omega) (by push_cast; omega)))
      have H3 := Lib.hid (fun (wz : World) (g : Nat) (h : Tab wz g T) => (show Calls Try.prog 24 #[.slice (some ⟨g, 0, none⟩) (n3 + 4) (n3 + 4), .int .i64 o3] wz fun e w' => e = .returned (.bool (bif ps then px else py)) ∧ w' = wz from by rw [← hlit.2.2]; exact HL.out wz g o3 h (by omega) (by push_cast; omega)))
      have HV := Lib.hid hval
      obtain ⟨c0, c1, c2, c3, c4, c5, c6, c7', c8, c9, c10⟩ := rbox_of (HALL.out _ hbx).1
      have HBA := Lib.hid (bt hbx (Nat.le_refl _) hbA)
      clear ha1 ha2 ha3 ha4 hbA htb hval hvo hvl hT hlit hsr HL hpx hpy hps hbx
      go_upto_region 17 with (go_at_call 23; refine HV.out.mono ?_; rintro e w9 ⟨hb9, v9, rfl, _, hyes⟩; obtain ⟨g9, rfl, _, ht9⟩ := hyes (by first | rfl | trivial); have HT9 := Lib.hid ht9; have HB9 := Lib.hid (bt HBA.out (Nat.le_refl _) hb9); clear hyes ht9 hb9 c0 c1 c2 c3 c4 c5 c6 c7' c8 c9 c10)
      clear HV e1 e2 e3 e4 f1 f2 f3 f4 hp1 hp2 hp3
      cases px <;> cases py <;> cases ps
      all_goals
        go_wp2_with (first
          | (go_at_call_of 24 xi; refine (HX.out _ _ HT9.out).mono ?_; rintro e w10 ⟨rfl, hw⟩; rw [hw]; clear hw w10)
          | (go_at_call_of 24 yi; refine (HY.out _ _ HT9.out).mono ?_; rintro e w10 ⟨rfl, hw⟩; rw [hw]; clear hw w10)
          | (go_at_call_of 24 si; refine (HS.out _ _ HT9.out).mono ?_; rintro e w10 ⟨rfl, hw⟩; rw [hw]; clear hw w10)
          | (go_at_call_of 24 o1; refine (H1.out _ _ HT9.out).mono ?_; rintro e w10 ⟨rfl, hw⟩; rw [hw]; clear hw w10)
          | (go_at_call_of 24 o2; refine (H2.out _ _ HT9.out).mono ?_; rintro e w10 ⟨rfl, hw⟩; rw [hw]; clear hw w10)
          | (go_at_call_of 24 o3; refine (H3.out _ _ HT9.out).mono ?_; rintro e w10 ⟨rfl, hw⟩; rw [hw]; clear hw w10))
        go_roundg (8 - (k + 1))
        case measure => omega
        case rel => exact ⟨k + 1, by omega, rfl, by go_num, HB9.out⟩
    · have hke : k = 8 := by omega
      subst hke
      clear hbx
      go_wp2
      go_ret
      exact ⟨rfl, (HALL.out _ HBX.out).2.2⟩
end Go.Proofs.Ytbeaicmjohlboab
