/- Stim: All. -/
import Derived.Test.YtjbglgmbnjdhcaaDoorStmK
namespace Go.Proofs.YtjbglgmbnjdhcaaDoor
open Go.RowKit

/-- Witnesses one behind the other. -/
def allW (L n : Nat) : Nat → List Wit → Bs → Option (List Wit)
  | 0, _, _ => none
  | k + 1, acc, s => if s = [] then some acc else match parseW L n s with
    | none => none
    | some (x, r) => allW L n k (acc ++ [x]) r
theorem allW_nil {L n K : Nat} {acc : List Wit} (hK : 0 < K) : allW L n K acc [] = some acc := by
  obtain ⟨k, rfl⟩ : ∃ j, K = j + 1 := ⟨K - 1, by omega⟩
  simp [allW]
theorem allW_cons {L n K : Nat} {acc : List Wit} {s : Bs} (hK : 0 < K) (hs : s ≠ []) : allW L n K acc s = (parseW L n s).bind fun y => allW L n (K - 1) (acc ++ [y.1]) y.2 := by
  obtain ⟨k, rfl⟩ : ∃ j, K = j + 1 := ⟨K - 1, by omega⟩
  rw [allW, if_neg hs]
  cases parseW L n s <;> rfl
theorem parse_less {Ln nn : Nat} {s : Bs} {x : Wit} {r : Bs} (h : parseW Ln nn s = some (x, r)) (hL : Ln ≤ 16384) (hn : nn ≤ 16384) : r.length < s.length := by
  obtain ⟨f, e, hne, _⟩ := (parse_some (L := (Ln : Int)) (n := (nn : Int)) (by simpa using h) (by omega)).2
  have := List.length_pos_iff.2 hne
  rw [e, List.length_append]
  omega
def allT (L n : Int) (s : Bs) : Option (List Wit) := if txE s L n = 0 then allW L.toNat n.toNat (s.length + 1) [] s else none
def enc5 (y : Wit × Value × Value × Value) : List Value := [.int .i64 y.1.st, y.2.1, y.2.2.1, y.2.2.2, .int .i64 y.1.tr.loop]
/-- Witnesses in a row, whose lists are the call's own. -/
structure OwnA (w : World) (B : Nat) (xs : List Wit) (us : List (Value × Value × Value)) (v : Value) : Prop where
  len : us.length = xs.length
  o : w.ownsRow B 28 5 v us.length ((xs.zip us).flatMap enc5)
  each : ∀ (i : Nat) (x : Wit) (u : Value × Value × Value), xs[i]? = some x → us[i]? = some u → OwnW w B x u.1 u.2.1 u.2.2
theorem OwnA.below {w w' : World} {B : Nat} {xs : List Wit} {us : List (Value × Value × Value)} {v : Value} (h : OwnA w B xs us v) (hb : Below w.heap.size w w') : OwnA w' B xs us v :=
  ⟨h.len, own_below h.o hb, fun i x u hx hu => (h.each i x u hx hu).below hb⟩
theorem OwnW.turned {w w2 : World} {b B : Nat} {x : Wit} {vp vi vr : Value} (h : OwnW w B x vp vi vr) (hg : w.grownBy w2 (some b)) (hb : b < B) : OwnW w2 B x vp vi vr := ⟨own_turned h.p hg hb, h.t.turned hg hb⟩
theorem OwnW.other {w w' : World} {B B2 n2 k2 : Nat} {x : Wit} {vp vi vr v2 : Value} {t2 : TypeId} {xs2 : List Value} (h : OwnW w B x vp vi vr) (h2 : w.ownsRow B2 t2 k2 v2 n2 xs2) (h0 : t2 ≠ 57) (h1 : t2 ≠ 4) (h3 : t2 ≠ 23) (hg : w.grownBy w' v2.ownBlock) : OwnW w' B x vp vi vr := by
  obtain ⟨us, a1, a2, a3⟩ := h.t.ex
  exact ⟨own_other h.p h2 h0 hg, own_other h.t.i h2 h1 hg, us, a1, own_other a2 h2 h3 hg, fun i u zs hu hz => own_other (a3 i u zs hu hz) h2 h1 hg⟩
theorem OwnA.nil_ (w : World) (B : Nat) : OwnA w B [] [] (.slice none 0 0) := ⟨rfl, World.ownsRow_nil _ _ _ _, fun i x u hx _ => by simp at hx⟩
theorem own_past {w w' : World} {B g n k : Nat} {e t : TypeId} {v : Value} {xs : List Value} {cs : Array Value} (h : w.ownsRow B e k v n xs) (hb : Blk w g t cs) (ht : e ≠ t) (hg : w.grownBy w' (some g)) : w'.ownsRow B e k v n xs :=
  own_of_block h (fun j hv => by
    obtain ⟨cs, hc⟩ := own_cellsF h hv
    exact hg.block j hc.lt (fun e => own_blk_ne h hb ht (by rw [hv, e])))
theorem OwnA.past {w w' : World} {B g : Nat} {xs : List Wit} {us : List (Value × Value × Value)} {v : Value} {t : TypeId} {cs : Array Value} (h : OwnA w B xs us v) (hb : Blk w g t cs) (h0 : 57 ≠ t) (h1 : 4 ≠ t) (h2 : 23 ≠ t) (h3 : 28 ≠ t) (hg : w.grownBy w' (some g)) : OwnA w' B xs us v :=
  ⟨h.len, own_past h.o hb h3 hg, fun i x u hx hu => by
    have hy := h.each i x u hx hu
    obtain ⟨us, a1, a2, a3⟩ := hy.t.ex
    exact ⟨own_past hy.p hb h0 hg, own_past hy.t.i hb h1 hg, us, a1, own_past a2 hb h2 hg, fun i u zs hu hz => own_past (a3 i u zs hu hz) hb h1 hg⟩⟩
theorem OwnA.box {w w' : World} {B g : Nat} {xs : List Wit} {us : List (Value × Value × Value)} {v : Value} {t : TypeId} {cs : Array Value} (h : OwnA w B xs us v) (hb : Blk w g t cs) (h0 : 57 ≠ t) (h1 : 4 ≠ t) (h2 : 23 ≠ t) (h3 : 28 ≠ t) (ho : ∀ k, k ≠ g → w'.heap[k]? = w.heap[k]?) : OwnA w' B xs us v :=
  ⟨h.len, own_box h.o hb h3 ho, fun i x u hx hu => (h.each i x u hx hu).box hb h0 h1 h2 ho⟩
/-- One witness more. -/
theorem OwnA.put {w5 w7 : World} {B : Nat} {xs : List Wit} {us : List (Value × Value × Value)} {v v' : Value} {x : Wit} {u : Value × Value × Value} (h : OwnA w5 B xs us v) (hx : OwnW w5 B x u.1 u.2.1 u.2.2) (o : Obj)
    (hv : w7.ownsRow B 28 5 v' (us.length + 1) ((xs.zip us).flatMap enc5 ++ enc5 (x, u))) (hg : (w5.alloc o).grownBy w7 v.ownBlock) : OwnA w7 B (xs ++ [x]) (us ++ [u]) v' := by
  have key : ∀ {y : Wit} {a b c : Value}, OwnW w5 B y a b c → OwnW w7 B y a b c := fun hy =>
    OwnW.other (hy.below ((Below.refl _ _).alloc (Nat.le_refl _) o)) (h.o.alloc o) (by decide) (by decide) (by decide) hg
  refine ⟨by simp [h.len], ?_, fun i y a hy ha => ?_⟩
  · rw [List.zip_append h.len.symm, List.flatMap_append]
    simpa using hv
  · by_cases hi : i < us.length
    · rw [List.getElem?_append_left (by rw [← h.len]; exact hi)] at hy
      rw [List.getElem?_append_left hi] at ha
      exact key (h.each i y a hy ha)
    · rw [List.getElem?_append_right (by rw [← h.len]; omega), ← h.len] at hy
      rw [List.getElem?_append_right (by omega)] at ha
      have : i - us.length = 0 := by have := (List.getElem?_eq_some_iff.1 ha).1; simp at this; exact this
      rw [this] at hy ha
      simp at hy ha
      subst hy ha
      exact key hx
theorem reads_wit (w : World) (a b c d e : Value) (t : TypeId) : Reads (w.alloc (.cells #[a, b, c, d, e] t)) (w.heap.size + 1) 5 (some ⟨w.heap.size, 0, none⟩) 1 [a, b, c, d, e] := by
  refine ⟨rfl, fun _ => ⟨_, rfl, by simp, fun j u hu => ?_⟩⟩
  rw [add_none, Nat.zero_add, cell_of_row _ _ _ #[a, b, c, d, e] t (0, 0) (heap_alloc_new w _)]
  simpa using hu
theorem infoWT : (Tryd.prog.info? 28).map (fun i => (i.zero, i.size, i.bytes)) = some (some (.agg #[.int .i64 0, .slice none 0 0, .slice none 0 0, .slice none 0 0, .int .i64 0]), 5, 88) := by kernel_rfl
theorem results_cellR {fn : Func} {p q : Tmp} {ty : TypeId} {P : Program} (h : fn.results = #[.tmp q, .cell p ty]) (tmps : Array Value) (w : World) (g : Nat) (t : TypeId) (cs : Array Value) (fr : Nat × Nat) (d : TypeDesc)
    (hp : tmps.getD p undef = .pointer (some ⟨g, 0, none⟩)) (hg : w.heap[g]? = some (.cells cs t fr))
    (hu : P.underlying ty = some d) (hd : (match d with | .struct _ | .array _ _ => true | _ => false) = true) (hi : (P.info? ty).map (·.size) = some cs.size) (v : Value) (hv : tmps.getD q undef = v) :
    (results fn tmps).run P w = .ok (.tuple #[v, .agg cs]) w := by
  have hp' : tmps[p]?.getD undef = .pointer (some ⟨g, 0, none⟩) := by simpa using hp
  subst hv
  have hl := run_loadVar_row w g t ty cs fr d hg hu (by cases d <;> first | rfl | exact hd) hi
  simp [results, h, hp', asAddr, hl]
def AlPost (w : World) (R : Option (List Wit)) (e : Ending) (w' : World) : Prop :=
  Below w.heap.size w w' ∧ ∃ (at' code : Int) (A : Option Addr) (k c : Nat), e = .returned (.tuple #[.slice A k c, .agg #[.int .i64 at', .int .i64 code]]) ∧ ∀ xs, R = some xs → xs.length ≤ 16384 → at' = 0 ∧ code = 0 ∧ ∃ us, OwnA w' w.heap.size xs us (.slice A k c)
set_option maxHeartbeats 8000000 in
set_option maxRecDepth 100000 in
theorem all_any (w : World) (B : Nat) (s : Bs) (L n : Int) (lib : LibB B w) (hB : B ≤ w.heap.size) :
    Calls Tryd.prog 14 #[.string (strB s), .int .i64 L, .int .i64 n] w (AlPost w (allT L n s)) := by
  have HB0 : Hid (Below w.heap.size w (w.alloc (.cells #[.int .i64 0, .int .i64 0] 40))) := Lib.hid ((Below.refl _ _).alloc (Nat.le_refl _) _)
  have HZ0 : Hid (Blk (w.alloc (.cells #[.int .i64 0, .int .i64 0] 40)) w.heap.size 40 #[.int .i64 0, .int .i64 0]) := Lib.hid (Blk.new w _ _)
  have HSX0 : Hid ((w.alloc (.cells #[.int .i64 0, .int .i64 0] 40)).heap.size = w.heap.size + 1) := Lib.hid (by simp)
  obtain ⟨iW, hiW, hWz0, hWz1, hWz2⟩ := info_of2 infoWT
  have HIW := Lib.hid (And.intro hiW (And.intro hWz0 (And.intro hWz1 hWz2)))
  clear hiW hWz0 hWz1 hWz2
  have HCK := Lib.hid (fun (wx : World) => checkText_any wx s L n)
  have HL0 := Lib.hid lib
  obtain ⟨c, hc⟩ : ∃ x, txE s L n = x := ⟨_, rfl⟩
  obtain ⟨R, hR⟩ : ∃ x, allT L n s = x := ⟨_, rfl⟩
  rw [hR]
  unfold allT at hR
  rw [hc] at HCK hR
  have HR := Lib.hid hR
  have HC := Lib.hid hc
  clear hR hc lib
  go_enter Tryd.func14, Tryd.ntmps14
  go_upto_region 1 with (fail)
  generalize w.alloc (.cells #[.int .i64 0, .int .i64 0] 40) = X at HZ0 HB0 HSX0 ⊢
  go_upto_region 2 with (go_at_call 24; refine (HCK.out X).mono ?_; rintro e w' ⟨rfl, rfl⟩)
  by_cases hc0 : c = 0
  · have hcz : (c != (0 : Int)) = false := by simpa using hc0
    have HOK : Hid (s.length ≤ 262144 ∧ cntB L n = true) := Lib.hid (by
      have h1 := HC.out
      rw [hc0] at h1
      unfold txE at h1
      split at h1
      · cases h1
      · rename_i h2
        cases h3 : cntB L n with
        | true => exact ⟨by omega, rfl⟩
        | false => rw [h3] at h1; cases h1)
    have hcn := HOK.out.2
    unfold cntB at hcn
    simp only [Bool.and_eq_true, decide_eq_true_eq] at hcn
    obtain ⟨⟨hl0, hl1⟩, hn0, hn1⟩ := hcn
    obtain ⟨Ln, rfl⟩ : ∃ k : Nat, L = k := ⟨L.toNat, by omega⟩
    obtain ⟨nn, rfl⟩ : ∃ k : Nat, n = k := ⟨n.toNat, by omega⟩
    have HR2 : Hid (allW Ln nn (s.length + 1) [] s = R) := Lib.hid (by
      have h1 := HR.out
      rw [if_pos hc0, Int.toNat_natCast, Int.toNat_natCast] at h1
      exact h1)
    clear HR HC HCK hc0
    have HN4 := Lib.hid (Blk.new X 60 #[.string ⟨#[]⟩, .int .i64 0, .int .i64 0, .int .i64 0, .int .i64 0])
    have hbld := build_rd (strB s) (Ln : Int) (nn : Int) X
    go_upto_region 6 with (refine wpList_store_row rfl 60 (.tmp 9) (.tmp 26) rfl X.heap.size #[.string (strB s), .int .i64 0, .int .i64 0, .int .i64 (Ln : Int), .int .i64 (nn : Int)] rfl rfl 60 _ HN4.out (by kernel_rfl) rfl (by simp [Value.oneCell']) ?_)
    have hnr := newRowT X #[.string ⟨#[]⟩, .int .i64 0, .int .i64 0, .int .i64 0, .int .i64 0] #[.string (strB s), .int .i64 0, .int .i64 0, .int .i64 (Ln : Int), .int .i64 (nn : Int)] 60
    obtain ⟨W2, hW2⟩ : ∃ W, (X.alloc (.cells #[.string ⟨#[]⟩, .int .i64 0, .int .i64 0, .int .i64 0, .int .i64 0] 60)).setRow X.heap.size #[.string (strB s), .int .i64 0, .int .i64 0, .int .i64 (Ln : Int), .int .i64 (nn : Int)] = W := ⟨_, rfl⟩
    rw [hW2] at hnr
    rw [hW2]
    obtain ⟨gr, hgr⟩ : ∃ g, X.heap.size = g := ⟨_, rfl⟩
    have HRD2 : Hid (Rd W2 gr s 0 0 Ln nn) := Lib.hid (by rw [← hgr]; exact hnr.2.1)
    have HB2 := Lib.hid (HB0.out.trans (hnr.1.mono HB0.out.size))
    have HZ2 := Lib.hid (Blk.below HZ0.out hnr.1 (Blk.lt HZ0.out))
    have HGR : Hid (gr = w.heap.size + 1) := Lib.hid (by rw [← hgr]; exact HSX0.out)
    have HSW2 : Hid (W2.heap.size = w.heap.size + 2) := Lib.hid (by rw [hnr.2.2, HSX0.out])
    rw [hgr]
    clear hbld hnr hW2 HN4 HZ0 HB0 hgr HSX0
    have HB3 : Hid (Below w.heap.size w (W2.alloc (.cells #[.int .i64 0, .int .i64 0] 40))) := Lib.hid (HB2.out.alloc HB2.out.size _)
    have HRD3 : Hid (Rd (W2.alloc (.cells #[.int .i64 0, .int .i64 0] 40)) gr s 0 0 Ln nn) := Lib.hid (HRD2.out.below ((Below.refl _ _).alloc (Nat.le_refl _) _))
    have HZ3 : Hid (Blk (W2.alloc (.cells #[.int .i64 0, .int .i64 0] 40)) w.heap.size 40 #[.int .i64 0, .int .i64 0]) := Lib.hid (HZ2.out.alloc _)
    have HL3 : Hid (Blk (W2.alloc (.cells #[.int .i64 0, .int .i64 0] 40)) (w.heap.size + 2) 40 #[.int .i64 0, .int .i64 0]) := Lib.hid (by rw [← HSW2.out]; exact Blk.new W2 _ _)
    go_upto_region 7 with (fail)
    rw [HSW2.out]
    generalize W2.alloc (.cells #[.int .i64 0, .int .i64 0] 40) = W3 at HB3 HRD3 HZ3 HL3 ⊢
    clear HB2 HRD2 HZ2 HSW2
    go_loopg [10] (s.length - 0) (fun j iv wx => ∃ (q l2 K : Nat) (acc : List Wit) (us : List (Value × Value × Value)) (a c : Int), j = s.length - q ∧ q ≤ s.length ∧ Rd wx gr s q l2 Ln nn ∧ Blk wx w.heap.size 40 #[.int .i64 0, .int .i64 0] ∧ Blk wx (w.heap.size + 2) 40 #[.int .i64 a, .int .i64 c] ∧ OwnA wx w.heap.size acc us iv ∧ (acc.length ≤ 16384 → a = 0 ∧ c = 0) ∧ acc.length ≤ q ∧ (s.drop q).length < K ∧ allW Ln nn K acc (s.drop q) = R ∧ Below w.heap.size w wx)
    case atStart => exact ⟨0, 0, s.length + 1, [], [], 0, 0, rfl, Nat.zero_le _, HRD3.out, HZ3.out, HL3.out, OwnA.nil_ _ _, fun _ => ⟨rfl, rfl⟩, Nat.le_refl _, by rw [List.drop_zero]; omega, by rw [List.drop_zero]; exact HR2.out, HB3.out⟩
    case round =>
      obtain ⟨q, l2, K, acc, us, la, lc, hj, hq, hrd, hz, hl, how, h16, haq, hK, hall, hbw⟩ := hrel
      subst hj
      obtain ⟨Aa, ca, hae⟩ := own_slice_k how.o
      subst hae
      obtain ⟨na, hna⟩ : ∃ x, us.length = x := ⟨_, rfl⟩
      rw [hna] at how ⊢
      have HNA : Hid (us.length = na ∧ acc.length = na) := Lib.hid ⟨hna, by rw [← how.len]; exact hna⟩
      have HRD := Lib.hid hrd
      have HZ := Lib.hid hz
      have HLG := Lib.hid hl
      have HOW := Lib.hid how
      have H16 := Lib.hid h16
      have HAQ : Hid (na ≤ q) := Lib.hid (by rw [← HNA.out.2]; exact haq)
      have HK := Lib.hid hK
      have HAL := Lib.hid hall
      have HBW := Lib.hid hbw
      have HMO := Lib.hid (more_any wr gr s q l2 Ln nn hrd)
      clear hrd hz hl how h16 haq hK hall hbw hna
      by_cases hlt : q < s.length
      · rw [decide_eq_true hlt] at HMO
        obtain ⟨RW, hRW⟩ : ∃ x, parseW Ln nn (s.drop q) = x := ⟨_, rfl⟩
        have HPL : Hid (∀ x r, RW = some (x, r) → r.length < s.length - q) := Lib.hid (fun x r hx => by
          have h9 := parse_less (Ln := Ln) (nn := nn) (by rw [hRW]; exact hx) (by omega) (by omega)
          rwa [List.length_drop] at h9)
        have HAL2 : Hid ((RW.bind fun y => allW Ln nn (K - 1) (acc ++ [y.1]) y.2) = R) := Lib.hid (by
          rw [← HAL.out, allW_cons (Nat.lt_of_le_of_lt (Nat.zero_le _) HK.out) (fun e => by have := congrArg List.length e; rw [List.length_drop] at this; simp at this; omega), hRW])
        have HWQ := Lib.hid (fun (wx : World) (hx : Rd wx gr s q l2 Ln nn) (hb : Below w.heap.size w wx) => witness_any wx B gr s q l2 Ln nn hx hq HOK.out.1 ⟨by omega, by omega⟩ (HL0.out.on (hb.mono hB)) (by have := HGR.out; omega))
        rw [hRW] at HWQ
        clear hRW HAL
        go_upto_region 10 with (first
          | (go_at_call 26; refine HMO.out.mono ?_; rintro e w2 ⟨rfl, hb2⟩; have HRD2 := Lib.hid (HRD.out.below hb2); have HZ2 := Lib.hid (Blk.below HZ.out hb2 (Blk.lt HZ.out)); have HLG2 := Lib.hid (Blk.below HLG.out hb2 (Blk.lt HLG.out)); have HOW2 := Lib.hid (HOW.out.below hb2); have HBW2 := Lib.hid (bt HBW.out (Nat.le_refl _) hb2); obtain ⟨_, e1, _⟩ := HRD2.out.cells; clear hb2 HRD HZ HLG HOW HBW)
          | (go_at_call 25; refine (HWQ.out w2 HRD2.out HBW2.out).mono ?_; rintro e w3 ⟨hg3, st, lp, at3, code, vp, vi, vr, p3, l3, ⟨A1, k1, c1, A2, k2, c2, A3, k3, c3, rfl, rfl, rfl⟩, hr3, hp3, rfl, hno3, hyes3⟩; have HG3 := Lib.hid hg3; have HR3 := Lib.hid hr3; have HNO3 := Lib.hid hno3; have HY3 := Lib.hid hyes3; have HP3 := Lib.hid hp3; have HNA3 := Lib.hid ((Blk.new w3 28 #[.int .i64 0, .slice none 0 0, .slice none 0 0, .slice none 0 0, .int .i64 0]).alloc (.cells #[.int .i64 0, .int .i64 0] 40)); have HNF : Hid (Blk ((w3.alloc (.cells #[.int .i64 0, .slice none 0 0, .slice none 0 0, .slice none 0 0, .int .i64 0] 28)).alloc (.cells #[.int .i64 0, .int .i64 0] 40)) (w3.heap.size + 1) 40 #[.int .i64 0, .int .i64 0]) := Lib.hid (by have := Blk.new (w3.alloc (.cells #[.int .i64 0, .slice none 0 0, .slice none 0 0, .slice none 0 0, .int .i64 0] 28)) 40 #[.int .i64 0, .int .i64 0]; simpa using this); clear hg3 hr3 hno3 hyes3 hp3 e1)
          | (refine wpList_store_row rfl 28 (.tmp 13) (.tmp 32) rfl w3.heap.size #[.int .i64 st, .slice A1 k1 c1, .slice A2 k2 c2, .slice A3 k3 c3, .int .i64 lp] rfl rfl 28 _ HNA3.out (by kernel_rfl) rfl (by simp [Value.oneCell']) ?_)
          | (refine wpList_store_row rfl 40 (.tmp 14) (.tmp 33) rfl (w3.heap.size + 1) #[.int .i64 at3, .int .i64 code] rfl rfl 40 _ (far_row HNF.out (by omega)) (by kernel_rfl) rfl (by simp [Value.oneCell']) ?_))
        obtain ⟨W4, hW4⟩ : ∃ W, (((w3.alloc (.cells #[.int .i64 0, .slice none 0 0, .slice none 0 0, .slice none 0 0, .int .i64 0] 28)).alloc (.cells #[.int .i64 0, .int .i64 0] 40)).setRow w3.heap.size #[.int .i64 st, .slice A1 k1 c1, .slice A2 k2 c2, .slice A3 k3 c3, .int .i64 lp]).setRow (w3.heap.size + 1) #[.int .i64 at3, .int .i64 code] = W := ⟨_, rfl⟩
        rw [hW4]
        have hb34 : Below w3.heap.size w3 W4 := by
          rw [← hW4]
          exact below_setRow (below_setRow (((Below.refl _ _).alloc (Nat.le_refl _) _).alloc (by simp) _) (Nat.le_refl _)) (by omega)
        have HKA : Hid (Blk W4 w3.heap.size 28 #[.int .i64 st, .slice A1 k1 c1, .slice A2 k2 c2, .slice A3 k3 c3, .int .i64 lp]) := Lib.hid (by
          rw [← hW4]
          exact far_row (setRow_heap _ _ _ _ _ _ HNA3.out) (by omega))
        have HKF : Hid (Blk W4 (w3.heap.size + 1) 40 #[.int .i64 at3, .int .i64 code]) := Lib.hid (by
          rw [← hW4]
          exact setRow_heap _ _ _ _ _ _ (far_row HNF.out (by omega)))
        have HB34 := Lib.hid hb34
        have hg24 := gb_below HG3.out hb34
        have HSZ : Hid (w.heap.size + 2 < w2.heap.size ∧ w2.heap.size ≤ w3.heap.size) := Lib.hid ⟨Blk.lt HLG2.out, HG3.out.size⟩
        have HB4 : Hid (Below w.heap.size w W4) := Lib.hid (HBW2.out.trans (gb_to hg24 (by have := HGR.out; omega) HBW2.out.size))
        have HRD4 := Lib.hid (HR3.out.below hb34)
        have HZ4 : Hid (Blk W4 w.heap.size 40 #[.int .i64 0, .int .i64 0]) := Lib.hid ((hg24.block _ (Blk.lt HZ2.out) (fun e => by injection e with e; have := HGR.out; omega)).trans HZ2.out)
        have HLG4 : Hid (Blk W4 (w.heap.size + 2) 40 #[.int .i64 la, .int .i64 lc]) := Lib.hid ((hg24.block _ (Blk.lt HLG2.out) (fun e => by injection e with e; have := HGR.out; omega)).trans HLG2.out)
        have HOW4 := Lib.hid (HOW2.out.past HRD2.out (by decide) (by decide) (by decide) (by decide) hg24)
        have HP4 : Hid (p3 ≤ s.length) := HP3
        clear hW4 hb34 hg24 HNA3 HNF HZ2 HLG2 HOW2 HBW2 HRD2 HR3 HG3 HWQ HMO HP3
        obtain ⟨e0, e1⟩ := duo_of HKF.out
        by_cases hcode : code = 0
        · have hcz2 : (code != (0 : Int)) = false := by simpa using hcode
          obtain ⟨⟨x, r⟩, hy⟩ : ∃ y, RW = some y := by
            cases h9 : RW with
            | none => exact absurd hcode (HNO3.out h9).1
            | some y => exact ⟨y, rfl⟩
          obtain ⟨y1, y2, y3, y4, y5, y6⟩ := HY3.out x r hy
          have HPQ : Hid (q < p3) := Lib.hid (by
            have h1 := HPL.out x r hy
            rw [← y3, List.length_drop] at h1
            omega)
          have HAL5 : Hid (allW Ln nn (K - 1) (acc ++ [x]) (s.drop p3) = R) := Lib.hid (by
            have h1 := HAL2.out
            rw [hy] at h1
            rw [y3]
            exact h1)
          have HX4 := Lib.hid ((y6.below HB34.out).le (Nat.le_of_lt (Nat.lt_of_succ_lt (Nat.lt_of_succ_lt HSZ.out.1))))
          have HE : Hid (st = x.st ∧ lp = x.tr.loop) := Lib.hid ⟨y4, y5⟩
          clear y1 y2 y3 y4 y5 y6 hcode hy HY3 HNO3 HAL2 HPL HB34
          by_cases h16k : na = 16384
          · have hnz : ((na : Int) == (16384 : Int)) = true := by simpa using (by omega : (na : Int) = 16384)
            have H16K := Lib.hid h16k
            clear h16k
            have hbld := build_f2 (q : Int) 2 W4
            go_upto_region 14 with (refine wpList_store_row rfl 40 (.tmp 11) (.tmp 42) rfl (w.heap.size + 2) #[.int .i64 (q : Int), .int .i64 2] rfl rfl 40 _ HLG4.out (by kernel_rfl) rfl (by simp [Value.oneCell']) ?_)
            clear hbld e0 e1 hnz
            have HRDX := Lib.hid (Rd.row (cs := #[.int .i64 (q : Int), .int .i64 2]) (g := w.heap.size + 2) HRD4.out (by have := HGR.out; omega))
            have HZX := Lib.hid (far_row (ds := #[.int .i64 (q : Int), .int .i64 2]) (g := w.heap.size + 2) HZ4.out (by omega))
            have HLGX : Hid (Blk (W4.setRow (w.heap.size + 2) #[.int .i64 (q : Int), .int .i64 2]) (w.heap.size + 2) 40 #[.int .i64 (q : Int), .int .i64 2]) := Lib.hid (setRow_heap _ _ _ _ _ _ HLG4.out)
            have HOWX : Hid (OwnA (W4.setRow (w.heap.size + 2) #[.int .i64 (q : Int), .int .i64 2]) w.heap.size acc us (.slice Aa na ca)) := Lib.hid (HOW4.out.box HLG4.out (by decide) (by decide) (by decide) (by decide) (fun k hk => setRow_other _ _ _ _ hk))
            have HXX : Hid (OwnW (W4.setRow (w.heap.size + 2) #[.int .i64 (q : Int), .int .i64 2]) w.heap.size x (.slice A1 k1 c1) (.slice A2 k2 c2) (.slice A3 k3 c3)) := Lib.hid (HX4.out.box HLG4.out (by decide) (by decide) (by decide) (fun k hk => setRow_other _ _ _ _ hk))
            have HKX := Lib.hid (far_row (ds := #[.int .i64 (q : Int), .int .i64 2]) (g := w.heap.size + 2) HKA.out (by have := HSZ.out; omega))
            have HBX := Lib.hid (below_setRow (cs := #[.int .i64 (q : Int), .int .i64 2]) (g := w.heap.size + 2) HB4.out (by omega))
            have HLC : Hid ((acc ++ [x]).length ≤ 16384 → (q : Int) = 0 ∧ (2 : Int) = 0) := Lib.hid (fun h => by have := HNA.out.2; have := H16K.out; simp at h; omega)
            generalize W4.setRow (w.heap.size + 2) #[.int .i64 (q : Int), .int .i64 2] = WX at HRDX HZX HLGX HOWX HXX HKX HBX ⊢
            obtain ⟨d0, d1, d2, d3, d4⟩ := five_of HKX.out
            go_wp2_with (at_builtin; refine wpList_append_any _ rfl (.tmp 43) (.tmp 45) _ rfl w.heap.size 28 iW _ 5 88 Tryd.underlying43 HIW.out.1 HIW.out.2.1 HIW.out.2.2.1 HIW.out.2.2.2 rfl (by omega) (.slice Aa na ca) na ((acc.zip us).flatMap enc5) rfl (by have h9 := HOWX.out.o; rw [HNA.out.1] at h9; exact h9.alloc _) (WX.heap.size + 1) (some ⟨WX.heap.size, 0, none⟩) 1 1 [.int .i64 st, .slice A1 k1 c1, .slice A2 k2 c2, .slice A3 k3 c3, .int .i64 lp] rfl (reads_wit _ _ _ _ _ _ _) (by simp [Value.oneCell']) (by have := HAQ.out; have := HOK.out.1; simp only [maxLen]; omega) (by have := HAQ.out; have := HOK.out.1; omega) (by have := HBX.out.size; simp; omega) ?_; intro v7 w7 hown7 hg7 hat7; obtain ⟨A7, k7, he7⟩ := own_slice1 hown7; subst he7; have HOW7 := Lib.hid (OwnA.put (x := x) (u := (.slice A1 k1 c1, .slice A2 k2 c2, .slice A3 k3 c3)) HOWX.out HXX.out _ (by rw [HNA.out.1, enc5]; simp only; rw [← HE.out.1, ← HE.out.2]; exact hown7) hg7); have HB7 := Lib.hid ((HBX.out.alloc HBX.out.size _).grown hg7 (by have := HBX.out.size; simp; omega) (fun k hk => (HOWX.out.o.lt k hk).1)); have HRD7 : Hid (Rd w7 gr s p3 l3 Ln nn) := Lib.hid (Blk.grown (Blk.alloc HRDX.out _) hg7 (fun e => own_blk_ne HOWX.out.o HRDX.out (by decide) e.symm)); have HZ7 := Lib.hid ((HZX.out.alloc _).grown hg7 (fun e => own_blk_ne HOWX.out.o HZX.out (by decide) e.symm)); have HLG7 := Lib.hid ((HLGX.out.alloc _).grown hg7 (fun e => own_blk_ne HOWX.out.o HLGX.out (by decide) e.symm)); clear hown7 hg7 hat7)
            clear d0 d1 d2 d3 d4
            go_roundg (s.length - p3)
            case measure => have := HPQ.out; have := HP4.out; omega
            case rel =>
              refine ⟨p3, l3, K - 1, acc ++ [x], _, _, _, by rfl, HP4.out, HRD7.out, HZ7.out, HLG7.out, HOW7.out, HLC.out, ?_, ?_, HAL5.out, HB7.out⟩
              · have := HAQ.out; have := HPQ.out; have := HNA.out.2; simp; omega
              · have h1 := HK.out; have h2 := HPQ.out; have h3 := HP4.out; rw [List.length_drop] at h1 ⊢; omega
          · have hnz : ((na : Int) == (16384 : Int)) = false := by simpa using (by omega : ¬ (na : Int) = 16384)
            go_upto_region 14 with (fail)
            clear e0 e1
            have HRDX := HRD4
            have HZX := HZ4
            have HLGX := HLG4
            have HOWX := HOW4
            have HXX := HX4
            have HKX := HKA
            have HBX := HB4
            have HLC : Hid ((acc ++ [x]).length ≤ 16384 → la = 0 ∧ lc = 0) := Lib.hid (fun h => H16.out (by simp at h; omega))
            clear HRD4 HZ4 HLG4 HOW4 HX4 HKA HB4
            generalize W4 = WX at HRDX HZX HLGX HOWX HXX HKX HBX ⊢
            obtain ⟨d0, d1, d2, d3, d4⟩ := five_of HKX.out
            go_wp2_with (at_builtin; refine wpList_append_any _ rfl (.tmp 43) (.tmp 45) _ rfl w.heap.size 28 iW _ 5 88 Tryd.underlying43 HIW.out.1 HIW.out.2.1 HIW.out.2.2.1 HIW.out.2.2.2 rfl (by omega) (.slice Aa na ca) na ((acc.zip us).flatMap enc5) rfl (by have h9 := HOWX.out.o; rw [HNA.out.1] at h9; exact h9.alloc _) (WX.heap.size + 1) (some ⟨WX.heap.size, 0, none⟩) 1 1 [.int .i64 st, .slice A1 k1 c1, .slice A2 k2 c2, .slice A3 k3 c3, .int .i64 lp] rfl (reads_wit _ _ _ _ _ _ _) (by simp [Value.oneCell']) (by have := HAQ.out; have := HOK.out.1; simp only [maxLen]; omega) (by have := HAQ.out; have := HOK.out.1; omega) (by have := HBX.out.size; simp; omega) ?_; intro v7 w7 hown7 hg7 hat7; obtain ⟨A7, k7, he7⟩ := own_slice1 hown7; subst he7; have HOW7 := Lib.hid (OwnA.put (x := x) (u := (.slice A1 k1 c1, .slice A2 k2 c2, .slice A3 k3 c3)) HOWX.out HXX.out _ (by rw [HNA.out.1, enc5]; simp only; rw [← HE.out.1, ← HE.out.2]; exact hown7) hg7); have HB7 := Lib.hid ((HBX.out.alloc HBX.out.size _).grown hg7 (by have := HBX.out.size; simp; omega) (fun k hk => (HOWX.out.o.lt k hk).1)); have HRD7 : Hid (Rd w7 gr s p3 l3 Ln nn) := Lib.hid (Blk.grown (Blk.alloc HRDX.out _) hg7 (fun e => own_blk_ne HOWX.out.o HRDX.out (by decide) e.symm)); have HZ7 := Lib.hid ((HZX.out.alloc _).grown hg7 (fun e => own_blk_ne HOWX.out.o HZX.out (by decide) e.symm)); have HLG7 := Lib.hid ((HLGX.out.alloc _).grown hg7 (fun e => own_blk_ne HOWX.out.o HLGX.out (by decide) e.symm)); clear hown7 hg7 hat7)
            clear d0 d1 d2 d3 d4
            go_roundg (s.length - p3)
            case measure => have := HPQ.out; have := HP4.out; omega
            case rel =>
              refine ⟨p3, l3, K - 1, acc ++ [x], _, _, _, by rfl, HP4.out, HRD7.out, HZ7.out, HLG7.out, HOW7.out, HLC.out, ?_, ?_, HAL5.out, HB7.out⟩
              · have := HAQ.out; have := HPQ.out; have := HNA.out.2; simp; omega
              · have h1 := HK.out; have h2 := HPQ.out; have h3 := HP4.out; rw [List.length_drop] at h1 ⊢; omega
        · have hcz2 : (code != (0 : Int)) = true := by simpa using hcode
          have hrw : RW = none := by
            cases h9 : RW with
            | none => rfl
            | some y => exact absurd (HY3.out y.1 y.2 h9).2.1 hcode
          have HN : Hid (R = none) := Lib.hid (by rw [← HAL2.out, hrw]; rfl)
          clear hrw
          go_upto_region 11 with (fail)
          clear e0 e1
          refine wp_region_T (by kernel_rfl) (fun w' => w'.cell? ⟨w3.heap.size + 1, 0, none⟩ = some (.int .i64 at3) ∧ w'.cell? ⟨w3.heap.size + 1, 1, none⟩ = some (.int .i64 code)) 3 ?_
          have HD : Hid (Below W4.heap.size W4 W4.drew) := Lib.hid (Below.refl _ _).drew
          have HZ6 := Lib.hid (Blk.below HZ4.out HD.out (Blk.lt HZ4.out))
          have HKF6 := Lib.hid (Blk.below HKF.out HD.out (Blk.lt HKF.out))
          have HB6 := Lib.hid (bt HB4.out (Nat.le_refl _) HD.out)
          have hHeld := duo_of HKF6.out
          refine wpAnyT_take (i := 0) (oi := { dst := some 37, op := Op.load 40 (Operand.tmp 14), type := 40, pos := "stim.go:63", after := #[{ on := 1, ground := Ground.gcOnly Departure.lateStores }], guard := none }) (v := ?v0r11q1) rfl (by kernel_rfl) (fun _ _ _ h => h) (by rfl) hHeld ?h0r11q1 ?_
          case h0r11q1 => (intro w' hSw; (try dsimp only at hSw); go_simp; try with_reducible rfl)
          (try simp only [Act.put, List.setIfInBounds_toArray, List.set_cons_zero, List.set_cons_succ])
          clear hHeld
          refine wpAnyT_one (i := 1) (o := { dst := some 6, op := Op.assign (Operand.const (Value.slice none 0 0)), type := 43, pos := "stim.go:63", after := #[{ on := 0, ground := Ground.textOnly Departure.lateStores }], guard := none }) rfl (by kernel_rfl) (fun K hK => ?_)
          go_simp
          refine hK.out _ _ (fun _ => duo_of HKF6.out) ?_
          clear hK K
          (try simp only [Act.put, List.setIfInBounds_toArray, List.set_cons_zero, List.set_cons_succ])
          refine wpAnyT_one (i := 2) (o := { dst := none, op := Op.store 40 (Operand.tmp 7) (Operand.tmp 37), type := 0, pos := "stim.go:63", after := #[{ on := 0, ground := Ground.data }, { on := 1, ground := Ground.chain }, { on := 0, ground := Ground.phase }, { on := 1, ground := Ground.phase }], guard := none }) rfl (by kernel_rfl) (fun K hK => ?_)
          rw [if_pos (by rfl)]
          refine wp_store_row 40 (.tmp 7) (.tmp 37) rfl w.heap.size #[.int .i64 at3, .int .i64 code] rfl rfl 40 _ HZ6.out (by kernel_rfl) rfl (by simp [Value.oneCell']) ?_
          refine hK.out _ _ (fun _ => duo_of (far_row HKF6.out (by have := HSZ.out; omega))) ?_
          clear hK K
          (try simp only [Act.put])
          refine wpAnyT_done (by kernel_rfl) ?_
          go_wp2
          refine bodyPost_ret (results_cellR (fn := Tryd.f14) (p := 7) (q := 6) rfl _ _ w.heap.size 40 #[.int .i64 at3, .int .i64 code] (0, 0) _ rfl (setRow_heap _ _ _ #[.int .i64 at3, .int .i64 code] _ _ HZ6.out) Tryd.underlying40 rfl (by kernel_rfl) (.slice none 0 0) rfl) rfl ?_
          exact ⟨below_setRow HB6.out (Nat.le_refl _), at3, code, none, 0, 0, rfl, fun x hh => by rw [HN.out] at hh; cases hh⟩
      · rw [decide_eq_false hlt] at HMO
        have HYES : Hid (R = some acc) := Lib.hid (by
          rw [← HAL.out, List.drop_of_length_le (by omega), allW_nil (Nat.lt_of_le_of_lt (Nat.zero_le _) HK.out)])
        clear HAL
        go_upto_region 15 with (go_at_call 26; refine HMO.out.mono ?_; rintro e w2 ⟨rfl, hb2⟩; have HZ2 := Lib.hid (Blk.below HZ.out hb2 (Blk.lt HZ.out)); have HLG2 := Lib.hid (Blk.below HLG.out hb2 (Blk.lt HLG.out)); have HOW2 := Lib.hid (HOW.out.below hb2); have HBW2 := Lib.hid (bt HBW.out (Nat.le_refl _) hb2); obtain ⟨e0, e1⟩ := duo_of HLG2.out; clear hb2 HZ HLG HOW HBW)
        by_cases hlc : lc = 0
        · have hcz2 : (lc != (0 : Int)) = false := by simpa using hlc
          have hbld := build_f0 w2
          go_wp2_with (refine wpList_store_row rfl 40 (.tmp 7) (.tmp 52) rfl w.heap.size #[.int .i64 0, .int .i64 0] rfl rfl 40 _ HZ2.out (by kernel_rfl) rfl (by simp [Value.oneCell']) ?_)
          refine bodyPost_ret (results_cellR (fn := Tryd.f14) (p := 7) (q := 6) rfl _ _ w.heap.size 40 #[.int .i64 0, .int .i64 0] (0, 0) _ rfl (setRow_heap _ _ _ #[.int .i64 0, .int .i64 0] _ _ HZ2.out) Tryd.underlying40 rfl (by kernel_rfl) (.slice Aa na ca) rfl) rfl ?_
          refine ⟨below_setRow HBW2.out (Nat.le_refl _), 0, 0, Aa, na, ca, rfl, fun xs hh _ => ⟨rfl, rfl, us, ?_⟩⟩
          rw [HYES.out] at hh
          injection hh with hh
          subst hh
          exact HOW2.out.box HZ2.out (by decide) (by decide) (by decide) (by decide) (fun k hk => setRow_other _ _ _ _ hk)
        · have hcz2 : (lc != (0 : Int)) = true := by simpa using hlc
          go_upto_region 16 with (fail)
          clear e0 e1
          refine wp_region_T (by kernel_rfl) (fun w' => w'.cell? ⟨w.heap.size + 2, 0, none⟩ = some (.int .i64 la) ∧ w'.cell? ⟨w.heap.size + 2, 1, none⟩ = some (.int .i64 lc)) 3 ?_
          have HD : Hid (Below w2.heap.size w2 w2.drew) := Lib.hid (Below.refl _ _).drew
          have HZ6 := Lib.hid (Blk.below HZ2.out HD.out (Blk.lt HZ2.out))
          have HKF6 := Lib.hid (Blk.below HLG2.out HD.out (Blk.lt HLG2.out))
          have HB6 := Lib.hid (bt HBW2.out (Nat.le_refl _) HD.out)
          have hHeld := duo_of HKF6.out
          refine wpAnyT_take (i := 0) (oi := { dst := some 50, op := Op.load 40 (Operand.tmp 11), type := 40, pos := "stim.go:72", after := #[{ on := 1, ground := Ground.gcOnly Departure.lateStores }], guard := none }) (v := ?v0r16q2) rfl (by kernel_rfl) (fun _ _ _ h => h) (by rfl) hHeld ?h0r16q2 ?_
          case h0r16q2 => (intro w' hSw; (try dsimp only at hSw); go_simp; try with_reducible rfl)
          (try simp only [Act.put, List.setIfInBounds_toArray, List.set_cons_zero, List.set_cons_succ])
          clear hHeld
          refine wpAnyT_one (i := 1) (o := { dst := some 6, op := Op.assign (Operand.const (Value.slice none 0 0)), type := 43, pos := "stim.go:72", after := #[{ on := 0, ground := Ground.textOnly Departure.lateStores }], guard := none }) rfl (by kernel_rfl) (fun K hK => ?_)
          go_simp
          refine hK.out _ _ (fun _ => duo_of HKF6.out) ?_
          clear hK K
          (try simp only [Act.put, List.setIfInBounds_toArray, List.set_cons_zero, List.set_cons_succ])
          refine wpAnyT_one (i := 2) (o := { dst := none, op := Op.store 40 (Operand.tmp 7) (Operand.tmp 50), type := 0, pos := "stim.go:72", after := #[{ on := 0, ground := Ground.data }, { on := 1, ground := Ground.chain }, { on := 0, ground := Ground.phase }, { on := 1, ground := Ground.phase }], guard := none }) rfl (by kernel_rfl) (fun K hK => ?_)
          rw [if_pos (by rfl)]
          refine wp_store_row 40 (.tmp 7) (.tmp 50) rfl w.heap.size #[.int .i64 la, .int .i64 lc] rfl rfl 40 _ HZ6.out (by kernel_rfl) rfl (by simp [Value.oneCell']) ?_
          refine hK.out _ _ (fun _ => duo_of (far_row HKF6.out (by omega))) ?_
          clear hK K
          (try simp only [Act.put])
          refine wpAnyT_done (by kernel_rfl) ?_
          go_wp2
          refine bodyPost_ret (results_cellR (fn := Tryd.f14) (p := 7) (q := 6) rfl _ _ w.heap.size 40 #[.int .i64 la, .int .i64 lc] (0, 0) _ rfl (setRow_heap _ _ _ #[.int .i64 la, .int .i64 lc] _ _ HZ6.out) Tryd.underlying40 rfl (by kernel_rfl) (.slice none 0 0) rfl) rfl ?_
          exact ⟨below_setRow HB6.out (Nat.le_refl _), la, lc, none, 0, 0, rfl, fun xs hh hx => by rw [HYES.out] at hh; injection hh with hh; subst hh; exact absurd (H16.out hx).2 hlc⟩
  · have hcz : (c != (0 : Int)) = true := by simpa using hc0
    have HN : Hid (R = none) := Lib.hid (by rw [← HR.out, if_neg hc0])
    have hbld2 := build_f1 c X
    go_wp2_with (refine wpList_store_row rfl 40 (.tmp 7) (.tmp 22) rfl w.heap.size #[.int .i64 0, .int .i64 c] rfl rfl 40 _ HZ0.out (by kernel_rfl) rfl (by simp [Value.oneCell']) ?_)
    refine bodyPost_ret (results_cellR (fn := Tryd.f14) (p := 7) (q := 6) rfl _ _ w.heap.size 40 #[.int .i64 0, .int .i64 c] (0, 0) _ rfl (setRow_heap _ _ _ #[.int .i64 0, .int .i64 c] _ _ HZ0.out) Tryd.underlying40 rfl (by kernel_rfl) (.slice none 0 0) rfl) rfl ?_
    exact ⟨below_setRow HB0.out (Nat.le_refl _), 0, c, none, 0, 0, rfl, fun x hh => by rw [HN.out] at hh; cases hh⟩
end Go.Proofs.YtjbglgmbnjdhcaaDoor
