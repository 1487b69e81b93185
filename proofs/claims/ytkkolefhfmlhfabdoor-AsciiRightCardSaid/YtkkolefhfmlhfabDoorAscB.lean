/- Ascii: numbers of a line. -/
import Derived.Test.YtkkolefhfmlhfabDoorAscA
import Derived.Deep.Cut
namespace Go.Proofs.YtkkolefhfmlhfabDoor
open Go.RowKit

theorem get0 {l : Bs} {c : UInt8} (hc : l[0]? = some c) : ∃ h : 0 < (strB l).size, (strB l)[0]'h = c := by
  obtain ⟨hk, e⟩ := List.getElem?_eq_some_iff.1 hc
  refine ⟨by rw [strB_size]; exact hk, ?_⟩
  rw [← e]
  rfl
set_option maxHeartbeats 4000000 in
set_option maxRecDepth 100000 in
theorem numberOf_any (w : World) (B : Nat) (l : Bs) (hlen : l.length ≤ 262144) (lib : LibB B w) (hB : B ≤ w.heap.size) :
    Calls Tryd.prog 69 #[.string (strB l)] w fun e w' => Below w.heap.size w w' ∧ ∃ v, e = .returned (.tuple #[.int .i64 v, .bool (numA l).isSome]) ∧ ∀ n, numA l = some n → v = (n : Int) := by
  have HPU := Lib.hid (parseUint_any w B l hlen lib hB)
  have HB0 := Lib.hid (Below.refl w.heap.size w)
  have hsz : (strB l).size = l.length := strB_size l
  clear lib
  have hbig : (l.length : Int) ≤ 262144 := by omega
  by_cases hz : 1 < l.length ∧ l.head? = some 48
  · obtain ⟨h1, hh⟩ := hz
    have HN := Lib.hid (numA_zero h1 hh)
    rw [HN.out]
    rw [List.head?_eq_getElem?] at hh
    obtain ⟨hk, hget⟩ := get0 hh
    have hx : (((strB l)[0]'hk).toNat : Int) = 48 := by rw [hget]; rfl
    have h2 : (1 : Int) < (l.length : Int) := by omega
    clear hget hh HPU
    generalize strB l = t at *
    generalize l.length = n at *
    go_enter Tryd.func69, Tryd.ntmps69
    go_wp2
    go_ret2
    exact ⟨HB0.out, _, rfl, fun m hm => by cases hm⟩
  · have hd : l.length ≤ 1 ∨ l.head? ≠ some 48 := by
      by_cases h1 : 1 < l.length
      · exact .inr fun h => hz ⟨h1, h⟩
      · exact .inl (by omega)
    have HQ := Lib.hid (numA_puA hd)
    have go : ∀ (T : ByteArray) (n : Nat), T.size = n → n ≤ 262144 → (n ≤ 1 ∨ ∃ h : 0 < T.size, (T[0]'h).toNat ≠ 48) → Hid (Calls Tryd.prog 79 #[.string T, .int .i64 10, .int .i64 31] w fun e w' => Below w.heap.size w w' ∧ ∃ (v : Int) (er : Value), e = .returned (.tuple #[.int .u64 v, er]) ∧ ((er = .nilIface ∧ 0 ≤ v ∧ v ≤ 2147483647 ∧ puA l = .ok v.toNat) ∨ (∃ t p, er = .iface t p ∧ ∀ x, puA l ≠ .ok x))) →
        Calls Tryd.prog 69 #[.string T] w fun e w' => Below w.heap.size w w' ∧ ∃ v, e = .returned (.tuple #[.int .i64 v, .bool (numA l).isSome]) ∧ ∀ n, numA l = some n → v = (n : Int) := by
      intro T n hT hn hc HP
      clear HPU hd hz hsz hbig hlen HB0
      have hnI : (n : Int) ≤ 262144 := by omega
      rcases hc with h1 | ⟨hk, hx⟩
      · have h2 : (n : Int) ≤ 1 := by omega
        clear h1 hn
        go_enter Tryd.func69, Tryd.ntmps69
        go_upto_region 4 with (go_at_call 79; refine HP.out.mono ?_; rintro e w1 ⟨hb, v, er, rfl, hc⟩; have HB := Lib.hid hb; have HC := Lib.hid hc; clear hb hc)
        have HBD : Hid (Below w.heap.size w w1.drew) := Lib.hid HB.out.drew
        rcases HC.out with ⟨rfl, hv0, hv1, hp⟩ | ⟨t, p, rfl, hp⟩
        · have HR : Hid (∃ n, numA l = some n ∧ (n : Int) = v) := Lib.hid (by
            rcases HQ.out with ⟨u, h1, h2⟩ | ⟨h1, _⟩
            · rw [h1] at hp
              injection hp with hp
              exact ⟨u, h2, by rw [hp]; omega⟩
            · exact absurd hp (h1 _))
          clear hp HC HQ
          go_region
          go_wp2
          go_ret2
          obtain ⟨n9, h9, h8⟩ := HR.out
          exact ⟨HBD.out, v, by rw [h9]; rfl, fun m hm => by rw [h9] at hm; injection hm with hm; omega⟩
        · have HR : Hid (numA l = none) := Lib.hid (by
            rcases HQ.out with ⟨u, h1, h2⟩ | ⟨_, h2⟩
            · exact absurd h1 (hp _)
            · exact h2)
          clear hp HC HQ
          go_region
          go_wp2
          go_ret2
          exact ⟨HBD.out, _, by rw [HR.out]; rfl, fun m hm => by rw [HR.out] at hm; cases hm⟩
      · have h3 : ¬ (((T[0]'hk).toNat : Int) = 48) := by omega
        by_cases h1 : n ≤ 1
        · have h2 : (n : Int) ≤ 1 := by omega
          clear h1 hn hx h3
          go_enter Tryd.func69, Tryd.ntmps69
          go_upto_region 4 with (go_at_call 79; refine HP.out.mono ?_; rintro e w1 ⟨hb, v, er, rfl, hc⟩; have HB := Lib.hid hb; have HC := Lib.hid hc; clear hb hc)
          have HBD : Hid (Below w.heap.size w w1.drew) := Lib.hid HB.out.drew
          rcases HC.out with ⟨rfl, hv0, hv1, hp⟩ | ⟨t, p, rfl, hp⟩
          · have HR : Hid (∃ n, numA l = some n ∧ (n : Int) = v) := Lib.hid (by
              rcases HQ.out with ⟨u, h1, h2⟩ | ⟨h1, _⟩
              · rw [h1] at hp
                injection hp with hp
                exact ⟨u, h2, by rw [hp]; omega⟩
              · exact absurd hp (h1 _))
            clear hp HC HQ
            go_region
            go_wp2
            go_ret2
            obtain ⟨n9, h9, h8⟩ := HR.out
            exact ⟨HBD.out, v, by rw [h9]; rfl, fun m hm => by rw [h9] at hm; injection hm with hm; omega⟩
          · have HR : Hid (numA l = none) := Lib.hid (by
              rcases HQ.out with ⟨u, h1, h2⟩ | ⟨_, h2⟩
              · exact absurd h1 (hp _)
              · exact h2)
            clear hp HC HQ
            go_region
            go_wp2
            go_ret2
            exact ⟨HBD.out, _, by rw [HR.out]; rfl, fun m hm => by rw [HR.out] at hm; cases hm⟩
        · have h2 : (1 : Int) < (n : Int) := by omega
          clear h1 hn hx
          go_enter Tryd.func69, Tryd.ntmps69
          go_upto_region 4 with (go_at_call 79; refine HP.out.mono ?_; rintro e w1 ⟨hb, v, er, rfl, hc⟩; have HB := Lib.hid hb; have HC := Lib.hid hc; clear hb hc)
          have HBD : Hid (Below w.heap.size w w1.drew) := Lib.hid HB.out.drew
          rcases HC.out with ⟨rfl, hv0, hv1, hp⟩ | ⟨t, p, rfl, hp⟩
          · have HR : Hid (∃ n, numA l = some n ∧ (n : Int) = v) := Lib.hid (by
              rcases HQ.out with ⟨u, h1, h2⟩ | ⟨h1, _⟩
              · rw [h1] at hp
                injection hp with hp
                exact ⟨u, h2, by rw [hp]; omega⟩
              · exact absurd hp (h1 _))
            clear hp HC HQ
            go_region
            go_wp2
            go_ret2
            obtain ⟨n9, h9, h8⟩ := HR.out
            exact ⟨HBD.out, v, by rw [h9]; rfl, fun m hm => by rw [h9] at hm; injection hm with hm; omega⟩
          · have HR : Hid (numA l = none) := Lib.hid (by
              rcases HQ.out with ⟨u, h1, h2⟩ | ⟨_, h2⟩
              · exact absurd h1 (hp _)
              · exact h2)
            clear hp HC HQ
            go_region
            go_wp2
            go_ret2
            exact ⟨HBD.out, _, by rw [HR.out]; rfl, fun m hm => by rw [HR.out] at hm; cases hm⟩
    refine go (strB l) l.length hsz hlen ?_ HPU
    rcases hd with hd | hd
    · exact .inl hd
    · by_cases hl : 0 < l.length
      · obtain ⟨c, hc⟩ : ∃ c, l[0]? = some c := ⟨_, List.getElem?_eq_getElem hl⟩
        obtain ⟨hk, hget⟩ := get0 hc
        refine .inr ⟨hk, fun h => hd ?_⟩
        rw [List.head?_eq_getElem?, hc]
        rw [hget] at h
        exact congrArg some (UInt8.toNat_inj.1 h)
      · exact .inl (by omega)
end Go.Proofs.YtkkolefhfmlhfabDoor
