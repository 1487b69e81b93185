/- PROVED HERE: AsciiOne: for every text and every byte the statement's Go function returns true and leaves its arguments as they were; the seven listed variables of the library are tied to the program's text. No condition. -/
import Derived.Test.YtkkolefhfmlhfabDoorAscOne
import Derived.Test.YtkkolefhfmlhfabDoorLift
import Derived.SizedLaws
import Derived.ChangeMaps5
import Derived.Test.YtkkolefhfmlhfabDoorTie
import Derived.Test.YtkkolefhfmlhfabDoorCards
import Derived.Lib.LaidTab
import Derived.MapKept
import Derived.LaidMore
import Derived.Stop.Joined
import Derived.Lay
import Derived.Shelf.Vars
import Derived.SevenTiedAt
import Derived.Deep.DeepHandedRow
namespace Go.Proofs.YtkkolefhfmlhfabDoor
open Go.ChangeShapes Go.WideShapes Go.ChangeAt Go.RowKit

section
variable {H : Type} {enc : TypeId × Value → H} {W : World}
set_option maxRecDepth 10000 in
theorem arg_byte {base : Nat} {v : Value} {d : DataW H} {ps : List MemPlace} (hval : Value.okWide Tryd.prog W .any base 5 v) (h : DataW.Trod enc Tryd.prog W 0 (fun _ => true) true 5 v d ps) : ∃ b : UInt8, v = .int .u8 (b.toNat : Int) := by
  obtain ⟨n, rfl⟩ := okWide_int Tryd.underlying5 hval
  obtain ⟨fuel, hf⟩ := h
  obtain ⟨z, h1, _, h2⟩ := DataW.trod_int Tryd.underlying5 hf
  simp [Value.cells] at h1
  subst h1
  have h3 : 0 ≤ n ∧ n ≤ 255 := by simpa [Lit.wf, IntKind.min, IntKind.max, IntKind.signed, IntKind.bits] using h2
  refine ⟨UInt8.ofNat n.toNat, ?_⟩
  have e : (UInt8.ofNat n.toNat).toNat = n.toNat := by rw [UInt8.toNat_ofNat']; omega
  rw [e]
  congr 1
  omega
end
abbrev laidA : List (String × DataW Unit) := [("math/bits.deBruijn32tab", Rows.laid_math_bits_deBruijn32tab), ("math/bits.deBruijn64tab", Rows.laid_math_bits_deBruijn64tab), ("internal/strconv.uint64pow10", Rows.laid_internal_strconv_uint64pow10), ("unicode/utf8.acceptRanges", Rows.laid_unicode_utf8_acceptRanges), ("strconv.ErrRange", Rows.laid_strconv_ErrRange), ("strconv.ErrSyntax", Rows.laid_strconv_ErrSyntax), ("unicode/utf8.first", Rows.laid_unicode_utf8_first)]
theorem plainA : (laidA.all fun x => x.2.handleName?.isNone) = true := by kernel_rfl
set_option maxRecDepth 100000 in
theorem metA (os : Os) (args : Array Value) : laidMetH Tryd.prog laidA ((World.laidAll Tryd.prog os laidA).forCall (fun _ _ => 0) ⟨#[], args, []⟩).memory := by
  rw [MakeChecks.laidMetH_plain _ _ _ plainA]
  exact laidMet_laidAll _ (by kernel_rfl) (by kernel_rfl)
theorem gSyn : Tryd.prog.globalNamed "strconv.ErrSyntax" = some 1 ∧ (Tryd.prog.globals[1]?).map (·.type) = some 124 := ⟨by kernel_rfl, by kernel_rfl⟩
theorem gRng : Tryd.prog.globalNamed "strconv.ErrRange" = some 2 ∧ (Tryd.prog.globals[2]?).map (·.type) = some 124 := ⟨by kernel_rfl, by kernel_rfl⟩
theorem libA {W : World} (h : laidMetH Tryd.prog laidA W) : (∃ tp p, W.cell? ⟨1, 0, none⟩ = some (.iface tp p)) ∧ ∃ tp p, W.cell? ⟨2, 0, none⟩ = some (.iface tp p) := by
  rw [MakeChecks.laidMetH_plain _ _ _ plainA] at h
  unfold laidA at h
  obtain ⟨ps, ⟨_, _, _, _, _, _, _, _, _, _, ⟨_, _, _, _, _, _, _, _, _, _, ⟨g3, t3, cs3, fl3, p3, q3, hg3, ht3, hv3, hd3, ⟨_, _, _, _, _, _, _, _, _, _, ⟨g5, t5, cs5, fl5, p5, q5, hg5, ht5, hv5, hd5, ⟨g6, t6, cs6, fl6, p6, q6, hg6, ht6, hv6, hd6, _, _⟩, _⟩, _⟩, _⟩, _⟩, _⟩, _⟩ := h
  obtain rfl := Option.some.inj (gRng.1.symm.trans hg5)
  obtain rfl := Option.some.inj (gRng.2.symm.trans ht5)
  obtain rfl := Option.some.inj (gSyn.1.symm.trans hg6)
  obtain rfl := Option.some.inj (gSyn.2.symm.trans ht6)
  refine ⟨?_, ?_⟩
  · obtain ⟨_, u, v, he, _, _⟩ := iface_of_trod Tryd.underlying124 hd6
    exact ⟨u, v, by rw [World.var?_cell gSyn.1 hv6 0, ← Array.getElem?_toList, he]; rfl⟩
  · obtain ⟨_, u, v, he, _, _⟩ := iface_of_trod Tryd.underlying124 hd5
    exact ⟨u, v, by rw [World.var?_cell gRng.1 hv5 0, ← Array.getElem?_toList, he]; rfl⟩
/-- What the listed variables give: the library's functions read what they want, whatever the call makes. -/
theorem libBA {W : World} (h : laidMetH Tryd.prog laidA W) (hm : ∃ m, W.cell? ⟨0, 0, none⟩ = some (.int .i64 m)) : LibB W.heap.size W := by
  obtain ⟨⟨t2, p2, h2⟩, t3, p3, h3⟩ := libA h
  obtain ⟨m, h4⟩ := hm
  intro w' hb
  have key : ∀ {a : Addr} {v : Value}, W.cell? a = some v → w'.cell? a = some v := fun hc => (hb.cell (World.block_lt_of_cell? W _ hc)).trans hc
  exact ⟨⟨t2, p2, key h2⟩, ⟨t3, p3, key h3⟩, ⟨m, key h4⟩⟩
theorem maxA {W : World} (h : W.ShapedOpen Tryd.prog) : ∃ m, W.cell? ⟨0, 0, none⟩ = some (.int .i64 m) :=
  cell_of_shapedOpen_int (P := Tryd.prog) (g := 0) (t := 3) (zero := #[.int .i64 0]) h (of_decide_eq_true (by kernel_rfl)) (by kernel_rfl) rfl (by kernel_rfl) (by kernel_rfl) Tryd.underlying3

set_option maxRecDepth 100000 in
theorem asciiOne_lifted (os : Os) (started : os.Started) (H : Type) (enc : TypeId × Value → H) :
    ReturnsInHanded {} Tryd.checked os 6 .any (fun w args => (Rows.asciiOneSpec.pre enc Tryd.prog Tryd.f6 [] false w args ∧ laidMetH Tryd.prog laidA w) ∧ sizedMet enc Tryd.prog Tryd.f6 (OpenSpec.ofChange Rows.asciiOneSpec) false w args)
      (Rows.asciiOneSpec.post enc Tryd.prog Tryd.f6 false true false false) := by
  refine returnsInHanded_of_row (C := Tryd.checked) (s := OpenSpec.ofChange Rows.asciiOneSpec) (F := fun _ _ => id) (laid := laidA) (conds := []) (apart := false) (fresh := true) (handsOn := false) (again := false) ownNone started (by kernel_rfl) Tryd.func6 ?_ ?_
  · exact ChangeSpec.witness_shaped (enc := enc) (C := Tryd.checked) (os := os) (X := fun w _ => laidMetH Tryd.prog laidA w) false (World.laidAll Tryd.prog os laidA) #[.string ⟨#[]⟩, .int .u8 0] 8 (World.laidAll_os _ _ _) (World.shaped_of_ZipB (by kernel_rfl) (by kernel_rfl)) (by kernel_rfl) (by kernel_rfl) (by kernel_rfl) (metA os _)
  · intro W base args ds gs before hval0 hW _ _ hsz0 hL hsh _
    have hsz : (DataW.weightsEach Tryd.prog (Tryd.f6.params.toList ++ Rows.asciiOneSpec.plain.varTypes Tryd.prog) (ds ++ gs)).all (· ≤ reachBytes) = true := hsz0
    have hval : ∀ (j : Nat) t v, Tryd.f6.params[j]? = some t → args[j]? = some v → Value.okWide Tryd.prog W .any base t v := hval0
    have hW' := hW
    obtain ⟨p, q, hA0, hV, rfl, hfz, hnd⟩ := hW
    have hA : DataW.TrodAll enc Tryd.prog W 0 (fun _ => true) true Tryd.f6.params.toList args.toList ds p := hA0
    have hA1 := hA
    rw [Tryd.params6] at hA hval hsz
    obtain ⟨v0, v1, d0, d1, p0, p1, rfl, rfl, rfl, h0, h1⟩ := trodAll_two hA
    obtain ⟨rfl, rfl⟩ := trodVars_none hV
    clear hA0 hval0 hsz0
    try simp only [List.append_nil] at hW'
    have hlt : ∀ x ∈ p0 ++ p1, x.block < W.heap.size := fun x hx => hW'.lt x (by simpa using hx)
    obtain ⟨s0, rfl, rfl, rfl, _⟩ := Go.ChangeMaps.open_string Tryd.underlying9 (hval 0 9 v0 rfl rfl) h0
    obtain ⟨b, rfl⟩ := arg_byte (hval 1 5 v1 rfl rfl) h1
    have hs0 : s0.data.toList.length ≤ reachBytes := sized_string hsz (j := 0) rfl rfl
    have hwk := asciiOne_any W W.heap.size s0.data.toList b (by simp only [reachBytes] at hs0; omega) (libBA hL (maxA hsh)) (Nat.le_refl _)
    rw [strB_of] at hwk
    refine hwk.mono fun e W' ⟨he, hbw⟩ => ?_
    subst he
    exact ⟨_, rfl, law_post rfl (by rw [Tryd.params6]; exact of_decide_eq_true (by kernel_rfl)) rfl hW' hA1 hlt rfl rfl rfl hbw⟩
theorem asciiOne_row : Rows.AsciiOneSaid :=
  OpenClaim.holds_of_wide 6 Tryd.f6 rfl rfl rfl rfl rfl rfl rfl ⟨rfl, rfl, rfl, rfl, rfl⟩ rfl rfl rfl rfl rfl (by kernel_rfl) Tryd.func6 (by kernel_rfl)
    (of_decide_eq_true (by kernel_rfl)) (by unfold Func.isWrapper; first | (rw [if_pos (by decide +kernel)]; kernel_rfl) | (rw [if_neg (by decide +kernel)]; exact ⟨rfl, rfl⟩))
    (fun os started H enc _ => asciiOne_lifted os started H enc)

/-- AsciiOne: for every text and every byte the statement's Go function returns true and leaves its arguments as they were. No condition. -/
theorem asciiOne_card : Rows.AsciiOneCardSaid :=
  Claim7.holds_tied_plain_at .later [] [.data, .data, .data, .data, .sentinel, .sentinel, .pinned] true Rows.asciiOneCard.stood.harness true
    asciiOne_row (fun _ h => by cases h) (by kernel_rfl) (fun _ h => by cases h) asciiOne_row_tie rfl ⟨rfl, rfl⟩ (by kernel_rfl) rfl
    (fun f fn hf hfn => by
      obtain rfl : f = 6 := Option.some.inj ((show Tryd.prog.funcNamed "trestle/trestlelaw04.AsciiOne" = some 6 by kernel_rfl).symm.trans hf) |>.symm
      obtain rfl : fn = Tryd.f6 := (Option.some.inj (Tryd.func6.symm.trans hfn)).symm
      exact ⟨by kernel_rfl, fun j t ht => by
        rw [Tryd.params6] at ht
        have hm : t ∈ [9, 5] := by simpa using Array.mem_of_getElem? ht
        have hall : ([9, 5].all fun u => !Tryd.prog.wantsStandIn u) = true := by kernel_rfl
        exact (show Tryd.prog.wantsStandIn t = false by simpa using List.all_eq_true.1 hall t hm)⟩)
    (by kernel_rfl)
#print axioms asciiOne_card
end Go.Proofs.YtkkolefhfmlhfabDoor
