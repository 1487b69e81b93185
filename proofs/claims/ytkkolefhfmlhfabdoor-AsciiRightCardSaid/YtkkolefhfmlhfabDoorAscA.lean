/- Ascii: the number that a word is. -/
import Derived.Test.YtkkolefhfmlhfabDoorAscP
import Derived.Test.YtkkolefhfmlhfabDoorAscShelf
import Derived.Lib.SmallJoins
import Derived.Lib.AppendIntMem
import Derived.Deep.RegionWith
import Derived.Laws.Tables
import Derived.Laws.Strings3
import Derived.Laws.Closers25
import Derived.Laws.Closers25b
import Derived.BigCall
import Derived.BigGuard
namespace Go.Proofs.YtkkolefhfmlhfabDoor
open Go.RowKit

theorem strB_list (l : Bs) : (strB l).data.toList = l := by simp [strB]
theorem strB_size (l : Bs) : (strB l).size = l.length := by rw [Lib.size_eq, strB_list]
theorem strB_toList (l : Bs) : (strB l).toList = l := by rw [Lib.toList_data, strB_list]
theorem strB_of (s : ByteArray) : strB s.data.toList = s := Lib.mk_data s
theorem strB_drop (l : Bs) (k : Nat) : (strB l).extract k (strB l).size = strB (l.drop k) := by
  rw [Lib.extract_eq, strB_list, strB_size, List.take_of_length_le (by simp)]
  rfl
/-- What the library's functions read of the program's variables. -/
structure Lib0 (w : World) : Prop where
  syn : ∃ tp p, w.cell? ⟨1, 0, none⟩ = some (.iface tp p)
  rng : ∃ tp p, w.cell? ⟨2, 0, none⟩ = some (.iface tp p)
  max : ∃ m, w.cell? ⟨0, 0, none⟩ = some (.int .i64 m)
/-- It stands, whatever is made at B and above. -/
def LibB (B : Nat) (w : World) : Prop := ∀ w', Below B w w' → Lib0 w'
theorem LibB.on {B : Nat} {w w' : World} (h : LibB B w) (hb : Below B w w') : LibB B w' := fun w2 h2 => h w2 (hb.trans h2)
theorem LibB.here {B : Nat} {w : World} (h : LibB B w) : Lib0 w := h w (Below.refl _ _)
theorem LibB.up {B : Nat} {w w' : World} (h : LibB B w) (hB : B ≤ w.heap.size) (hb : Below w.heap.size w w') : LibB B w' := h.on (hb.mono hB)

/-- The state of ParseUint's loop. -/
def PuR (l : Bs) (k acc : Nat) (a : Int) : Prop := a = (acc : Int) ∧ acc ≤ 2147483647 ∧ Lib.parseUintM 2147483647 0 l = Lib.parseUintM 2147483647 acc (l.drop k)
set_option maxHeartbeats 8000000 in
set_option maxRecDepth 100000 in
theorem pu31_any (w : World) (l : Bs) (hl : l ≠ []) (hlen : l.length ≤ 262144) :
    Calls Tryd.prog 86 #[.string (strB l), .int .i64 10, .int .i64 31] w fun e w' => Below w.heap.size w w' ∧ e = .returned (Lib.uintTupleM 137 2147483647 (Lib.parseUintM 2147483647 0 l)) := by
  have HB : Hid (Below w.heap.size w (Lib.bytesWorld w 5 (strB l))) := Lib.hid (Go.Joins.below_bytesWorld _ _ _ _ (Nat.le_refl _))
  have hsz : (strB l).size = l.length := strB_size l
  have hemp : (strB l).toList.isEmpty = false := by
    rw [strB_toList]
    cases l with
    | nil => exact absurd rfl hl
    | cons c r => rfl
  have hcv := Lib.run_convert_string_bytes (P := Tryd.prog) w 9 49 5 (strB l) (u := .string) Tryd.underlying9 Tryd.underlying49 Tryd.underlying5
  have HCE : Hid (∀ (j : Nat) (c : UInt8), l[j]? = some c → (Lib.bytesWorld w 5 (strB l)).cell? ⟨w.heap.size, j, none⟩ = some (.int .u8 c.toNat)) := Lib.hid (fun j c hc => by
    have hj : j < l.length := (List.getElem?_eq_some_iff.1 hc).1
    rw [Lib.bytesWorld_cell w 5 (strB l) j (by rw [hsz]; exact hj), strB_list, List.getD_eq_getElem?_getD, hc]
    rfl)
  have hmv : IntKind.u64.wrap (IntKind.u64.wrap 2147483648 - 1) = 2147483647 := by
    rw [IntKind.wrap_u64, IntKind.wrap_u64]
    decide
  obtain ⟨W1, hW1⟩ : ∃ W1, Lib.bytesWorld w 5 (strB l) = W1 := ⟨_, rfl⟩
  rw [hW1] at HB hcv HCE
  clear hW1
  have HS0 : Hid (PuR l 0 0 0) := Lib.hid ⟨rfl, by omega, rfl⟩
  generalize strB l = t at hsz hemp hcv
  obtain ⟨n, hn⟩ : ∃ n, l.length = n := ⟨_, rfl⟩
  rw [hn] at hsz hlen
  have HN := Lib.hid hn
  clear hn
  go_enter Tryd.func86, Tryd.ntmps86
  go_wp2
  go_loopg [12, 13, 101] n (fun j vu vn vi wx => ∃ (k acc : Nat) (a : Int), k ≤ n ∧ j = n - k ∧ wx = W1 ∧ vu = .bool false ∧ vn = .int .u64 a ∧ vi = .int .i64 k ∧ Hid (PuR l k acc a))
  case atStart => exact ⟨0, 0, 0, Nat.zero_le _, rfl, rfl, rfl, rfl, rfl, HS0⟩
  case round =>
    clear HS0
    obtain ⟨k, acc, a, hk, hj, rfl, rfl, rfl, rfl, hh⟩ := hrel
    obtain ⟨ha, hacc, hdec⟩ := hh.out
    clear hh
    have a0 : 0 ≤ a := by omega
    have a1 : a ≤ 2147483647 := by omega
    by_cases hkn : k < n
    · obtain ⟨c, hc⟩ : ∃ c, l[k]? = some c := ⟨_, List.getElem?_eq_getElem (by rw [HN.out]; exact hkn)⟩
      have hcell := HCE.out k c hc
      have hd : l.drop k = c :: l.drop (k + 1) := drop_one hc
      rw [hd] at hdec
      have hc256 : c.toNat < 256 := c.toNat_lt
      clear hc hd
      by_cases hdig : 48 ≤ c.toNat ∧ c.toNat ≤ 57
      · obtain ⟨hd0, hd1⟩ := hdig
        have hcut : ¬ 1844674407370955162 ≤ acc := by omega
        have hF : Lib.parseUintM 2147483647 acc (c :: l.drop (k + 1)) = if 2147483647 < acc * 10 + (c.toNat - 48) then .range else Lib.parseUintM 2147483647 (acc * 10 + (c.toNat - 48)) (l.drop (k + 1)) := by
          simp only [Lib.parseUintM, if_pos (And.intro hd0 hd1), if_neg hcut]
        rw [hF] at hdec
        by_cases hov : 2147483647 < acc * 10 + (c.toNat - 48)
        · rw [if_pos hov] at hdec
          have HD := Lib.hid hdec
          have iov : 2147483647 < a * 10 + ((c.toNat : Int) - 48) := by omega
          clear hcut hacc hF hov ha hdec
          go_wp2
          go_ret2
          exact ⟨HB.out, by rw [HD.out]; rfl⟩
        · rw [if_neg hov] at hdec
          have HQ : Hid (PuR l (k + 1) (acc * 10 + (c.toNat - 48)) (a * 10 + ((c.toNat : Int) - 48))) := Lib.hid ⟨by omega, by omega, hdec⟩
          have iov : a * 10 + ((c.toNat : Int) - 48) ≤ 2147483647 := by omega
          clear hcut hacc hF hov hdec ha
          go_wp2
          go_roundg (n - (k + 1))
          case measure => omega
          case rel => first
            | exact ⟨k + 1, acc * 10 + (c.toNat - 48), a * 10 + ((c.toNat : Int) - 48), by omega, rfl, rfl, rfl, (by first | rfl | (congr 1; omega)), (by first | rfl | (congr 1; omega)), HQ⟩
            | ((repeat apply Exists.intro); exact ⟨⟨k + 1, acc * 10 + (c.toNat - 48), a * 10 + ((c.toNat : Int) - 48), by omega, rfl, rfl, rfl, (by first | rfl | (congr 1; omega)), (by first | rfl | (congr 1; omega)), HQ⟩, rfl⟩)
      · have hF : Lib.parseUintM 2147483647 acc (c :: l.drop (k + 1)) = .syntax := by simp only [Lib.parseUintM, if_neg hdig]
        rw [hF] at hdec
        have HD := Lib.hid hdec
        clear hacc hF ha hdec
        have hv0 := bits_lo_u8 .or (c.toNat : Int) 32
        have hv1 := bits_hi_u8 .or (c.toNat : Int) 32
        have hu0 := bits_lo_u8 .or 95 32
        have hu1 := bits_hi_u8 .or 95 32
        go_wp2_with (go_at_call 93; refine (Tryd.internal_strconv_lower _ _).mono ?_; rintro e w' ⟨rfl, rfl⟩)
        all_goals go_ret2
        all_goals exact ⟨HB.out, by rw [HD.out]; rfl⟩
    · have hkk : k = n := by omega
      have hF : Lib.parseUintM 2147483647 acc (l.drop k) = .ok acc := by rw [List.drop_eq_nil_of_le (by rw [HN.out]; omega)]; rfl
      rw [hF] at hdec
      have HD := Lib.hid hdec
      subst hkk
      subst ha
      clear hacc hF a0 a1 hdec
      go_wp2
      go_ret2
      exact ⟨HB.out, by rw [HD.out]; rfl⟩
/-- How ParseUint ends. -/
def puA (l : Bs) : Lib.NumEnd Nat := if l = [] then .syntax else Lib.parseUintM 2147483647 0 l
set_option maxHeartbeats 4000000 in
set_option maxRecDepth 100000 in
theorem pu31_all (w : World) (l : Bs) (hlen : l.length ≤ 262144) :
    Calls Tryd.prog 86 #[.string (strB l), .int .i64 10, .int .i64 31] w fun e w' => Below w.heap.size w w' ∧ e = .returned (Lib.uintTupleM 137 2147483647 (puA l)) := by
  by_cases hl : l = []
  · have hq : puA l = .syntax := by unfold puA; rw [if_pos hl]
    rw [hq]
    have hemp : (strB l).toList.isEmpty = true := by
      rw [strB_toList, hl]
      rfl
    have HB := Lib.hid (Below.refl w.heap.size w)
    clear hq hl hlen
    generalize strB l = t at *
    go_enter Tryd.func86, Tryd.ntmps86
    go_wp2
    go_ret2
    exact ⟨HB.out, rfl⟩
  · have hq : puA l = Lib.parseUintM 2147483647 0 l := by unfold puA; rw [if_neg hl]
    rw [hq]
    exact pu31_any w l hl hlen
set_option maxHeartbeats 4000000 in
set_option maxRecDepth 100000 in
theorem parseUint_any (w : World) (B : Nat) (l : Bs) (hlen : l.length ≤ 262144) (lib : LibB B w) (hB : B ≤ w.heap.size) :
    Calls Tryd.prog 79 #[.string (strB l), .int .i64 10, .int .i64 31] w fun e w' => Below w.heap.size w w' ∧ ∃ (v : Int) (er : Value), e = .returned (.tuple #[.int .u64 v, er]) ∧ ((er = .nilIface ∧ 0 ≤ v ∧ v ≤ 2147483647 ∧ puA l = .ok v.toNat) ∨ (∃ t p, er = .iface t p ∧ ∀ x, puA l ≠ .ok x)) := by
  have HPU := Lib.hid (pu31_all w l hlen)
  have HLB := Lib.hid lib
  have hsz : (strB l).size ≤ 281474976710656 := by rw [strB_size]; omega
  have HSZ := Lib.hid hsz
  have hok : ∀ v, puA l = .ok v → v ≤ 2147483647 := fun v hv => by
    unfold puA at hv
    split at hv
    · cases hv
    rcases pum_cases l 0 (by omega) with ⟨v', h1, _, _, h4⟩ | ⟨h1, _⟩
    · rw [h1] at hv; injection hv with hv; omega
    · rw [hv] at h1; rcases h1 with h1 | h1 <;> cases h1
  have HOK := Lib.hid hok
  clear lib hsz hlen hok
  obtain ⟨q, hq⟩ : ∃ q, puA l = q := ⟨_, rfl⟩
  rw [hq] at HPU HOK ⊢
  generalize strB l = t at *
  cases q with
  | ok v =>
    have hv := HOK.out v rfl
    have HPV : Hid (Calls Tryd.prog 86 #[.string t, .int .i64 10, .int .i64 31] w fun e w' => Below w.heap.size w w' ∧ e = .returned (.tuple #[.int .u64 (v : Int), .nilIface])) := HPU
    go_enter Tryd.func79, Tryd.ntmps79
    go_wp2_with (go_at_call 86; refine HPV.out.mono ?_; rintro e w1 ⟨hb, rfl⟩; have HB := Lib.hid hb; clear hb)
    go_ret2
    exact ⟨HB.out, (v : Int), .nilIface, rfl, .inl ⟨rfl, by omega, by omega, by simp⟩⟩
  | «syntax» =>
    have HPV : Hid (Calls Tryd.prog 86 #[.string t, .int .i64 10, .int .i64 31] w fun e w' => Below w.heap.size w w' ∧ e = .returned (.tuple #[.int .u64 0, .iface 137 (.int .i64 2)])) := HPU
    have HTE := Lib.hid (fun (wx : World) (hb : Below w.heap.size w wx) => (show Calls Tryd.prog 87 #[.string ⟨#[80, 97, 114, 115, 101, 85, 105, 110, 116]⟩, .string t, .int .i64 10, .int .i64 31, .iface 137 (.int .i64 2)] wx fun e w' => ∃ tp p, e = .returned (.iface tp p) ∧ Below wx.heap.size wx w' from by
      obtain ⟨tp, p, hc⟩ := (HLB.out.up hB hb).here.syn
      exact (Tryd.strconv_toError_syntax _ _ 10 31 _ wx HSZ.out hc (.inr ⟨_, _, rfl⟩)).mono fun e w' ⟨N, h1, _, _, h4⟩ => ⟨_, _, h1, h4⟩))
    go_enter Tryd.func79, Tryd.ntmps79
    go_wp2_with (first
      | (go_at_call 86; refine HPV.out.mono ?_; rintro e w1 ⟨hb, rfl⟩; have HB := Lib.hid hb; clear hb)
      | (go_at_call 87; refine (HTE.out w1 HB.out).mono ?_; rintro e w2 ⟨tp, p, rfl, hb⟩; have HB2 := Lib.hid (bt HB.out (Nat.le_refl _) hb); clear hb))
    go_ret2
    exact ⟨HB2.out, _, _, rfl, .inr ⟨_, _, rfl, fun x hx => by cases hx⟩⟩
  | range =>
    have HPV : Hid (Calls Tryd.prog 86 #[.string t, .int .i64 10, .int .i64 31] w fun e w' => Below w.heap.size w w' ∧ e = .returned (.tuple #[.int .u64 2147483647, .iface 137 (.int .i64 1)])) := HPU
    have HTE := Lib.hid (fun (wx : World) (hb : Below w.heap.size w wx) => (show Calls Tryd.prog 87 #[.string ⟨#[80, 97, 114, 115, 101, 85, 105, 110, 116]⟩, .string t, .int .i64 10, .int .i64 31, .iface 137 (.int .i64 1)] wx fun e w' => ∃ tp p, e = .returned (.iface tp p) ∧ Below wx.heap.size wx w' from by
      obtain ⟨tp, p, hc⟩ := (HLB.out.up hB hb).here.rng
      exact (Tryd.strconv_toError_range _ _ 10 31 _ wx HSZ.out hc (.inr ⟨_, _, rfl⟩)).mono fun e w' ⟨N, h1, _, _, h4⟩ => ⟨_, _, h1, h4⟩))
    go_enter Tryd.func79, Tryd.ntmps79
    go_wp2_with (first
      | (go_at_call 86; refine HPV.out.mono ?_; rintro e w1 ⟨hb, rfl⟩; have HB := Lib.hid hb; clear hb)
      | (go_at_call 87; refine (HTE.out w1 HB.out).mono ?_; rintro e w2 ⟨tp, p, rfl, hb⟩; have HB2 := Lib.hid (bt HB.out (Nat.le_refl _) hb); clear hb))
    go_ret2
    exact ⟨HB2.out, _, _, rfl, .inr ⟨_, _, rfl, fun x hx => by cases hx⟩⟩
theorem numA_puA {l : Bs} (h : l.length ≤ 1 ∨ l.head? ≠ some 48) : (∃ v, puA l = .ok v ∧ numA l = some v) ∨ ((∀ v, puA l ≠ .ok v) ∧ numA l = none) := by
  unfold puA
  by_cases hl : l = []
  · subst hl
    exact .inr ⟨fun v hv => by simp at hv, numA_nil⟩
  · rw [if_neg hl]
    by_cases hp : ∃ v, Lib.parseUintM 2147483647 0 l = .ok v
    · obtain ⟨v, hv⟩ := hp
      exact .inl ⟨v, hv, numA_ok hl h hv⟩
    · exact .inr ⟨fun v hv => hp ⟨v, hv⟩, numA_no fun v hv => hp ⟨v, hv⟩⟩
end Go.Proofs.YtkkolefhfmlhfabDoor
