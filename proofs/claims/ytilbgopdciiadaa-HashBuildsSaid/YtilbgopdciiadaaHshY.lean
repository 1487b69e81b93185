/- Hash: the document's Build: literals by any map; what memory holds while it builds. -/
import Derived.Test.YtilbgopdciiadaaHshS
import Derived.Test.YtilbgopdciiadaaHshX
import Derived.Test.YtilbgopdciiadaaRnC
import Derived.Test.YtilbgopdciiadaaLendC
namespace Go.Proofs.Ytilbgopdciiadaa
open Go.RowKit Go.Maps

set_option maxHeartbeats 400000 in
set_option maxRecDepth 100000 in
theorem rLitX_any (w : World) (gm : Nat) (M : List Int) (l : Int) (hg : Nums w gm M) (h0 : 0 ≤ l) (hl : l / 2 < (M.length : Int)) (hM : M.length ≤ 100000) (he : MapOk M) :
    Calls Try.prog 56 #[.slice (some ⟨gm, 0, none⟩) M.length M.length, .int .i64 l] w fun e w' => e = .returned (.int .i64 (mvX M l)) ∧ w' = w := by
  have hk : (l / 2).toNat < M.length := by omega
  have hx := getD_some hk (d := 0)
  have c1 := hg.cell hx
  have hv : mvX M l = if l % 2 = 0 then M.getD (l / 2).toNat 0 else neg (M.getD (l / 2).toNat 0) := rfl
  obtain ⟨x, hxe⟩ : ∃ x, M.getD (l / 2).toNat 0 = x := ⟨_, rfl⟩
  have hxr := he (l / 2).toNat
  rw [hxe] at c1 hv hxr
  have x0 := xor_zero (x := x) (by unfold I64; omega)
  have x1 := xor_neg (x := x) (by unfold I64; omega)
  have hq := tdiv_nn (b := 2) h0
  have hq0 : 0 ≤ l / 2 := by omega
  have hr2 : l.tmod 2 = l % 2 := Int.tmod_eq_emod_of_nonneg h0
  have hm : l % 2 = 0 ∨ l % 2 = 1 := by omega
  obtain ⟨r, hr⟩ : ∃ r, l % 2 = r := ⟨_, rfl⟩
  rw [hr] at hr2 hm hv
  have hrw : IntKind.i64.wrap r = r := by rcases hm with e | e <;> (subst e; rfl)
  rw [hv]
  have HR := Lib.hid hr
  clear hg hx hk hxe he hv hr
  rcases hm with e | e
  · subst e
    rw [if_pos rfl]
    go_enter Try.func56, Try.ntmps56
    go_wp2
    go_ret
    exact ⟨rfl, rfl⟩
  · subst e
    rw [if_neg (by decide)]
    go_enter Try.func56, Try.ntmps56
    go_wp2
    go_ret
    exact ⟨rfl, rfl⟩
set_option maxHeartbeats 1000000 in
set_option maxRecDepth 100000 in
theorem rLitsX_any (w : World) (gm : Nat) (M : List Int) (v : Value) (zs : List Int) (hg : Nums w gm M) (hM1 : M.length ≤ 100000) (he : MapOk M) (h : RowE 1 encI w v zs) (hz : ∀ z ∈ zs, 0 ≤ z ∧ z / 2 < (M.length : Int)) (hn16 : zs.length * 8 ≤ 140737488355328) :
    Calls Try.prog 57 #[.slice (some ⟨gm, 0, none⟩) M.length M.length, v] w fun e w' => ∃ v', e = .returned v' ∧ w'.ownsRow w.heap.size 3 1 v' zs.length ((zs.map (mvX M)).map (Value.int .i64)) ∧ Below w.heap.size w w' := by
  obtain ⟨A, c, rfl, hc, hmx, hp⟩ := h
  have HP := Lib.hid hp
  have HZ := Lib.hid hz
  have HG := Lib.hid hg
  have HB0 := Lib.hid (Below.refl w.heap.size w)
  have HLT := Lib.hid (Blk.lt hg)
  have HC := Lib.hid (fun (wx : World) (l : Int) (hx : Nums wx gm M) (h0 : 0 ≤ l) (h1 : l / 2 < (M.length : Int)) => rLitX_any wx gm M l hx h0 h1 hM1 he)
  obtain ⟨n, hn⟩ : ∃ n, zs.length = n := ⟨_, rfl⟩
  obtain ⟨N, hN⟩ : ∃ N, M.length = N := ⟨_, rfl⟩
  have HN := Lib.hid hn
  rw [hN] at HC HZ
  rw [hn] at hn16 hc
  rw [hn, hN]
  clear hp hc hmx hz hg he hn hN hM1
  go_enter Try.func57, Try.ntmps57
  go_wp2
  go_loopg [5, 6] n (fun j ov iv wr => ∃ k : Nat, k ≤ n ∧ iv = .int .i64 k ∧ j = n - k ∧ wr.ownsRow w.heap.size 3 1 ov k (((zs.take k).map (mvX M)).map (Value.int .i64)) ∧ Below w.heap.size w wr)
  case atStart => exact ⟨0, Nat.zero_le _, rfl, rfl, ⟨rfl, .inl ⟨rfl, rfl⟩⟩, HB0.out⟩
  case round =>
    obtain ⟨k, hk, rfl, hgk, hown, hbl⟩ := hrel
    subst hgk
    have HO := Lib.hid hown
    have HB := Lib.hid hbl
    clear hown hbl HB0
    by_cases hlt : k < n
    · have hx := List.getElem?_eq_getElem (l := zs) (i := k) (by rw [HN.out]; exact hlt)
      generalize zs[k]'(by rw [HN.out]; exact hlt) = x at hx
      obtain ⟨b, off, rfl, hb, hcell⟩ := HP.out k x hx
      have i0 := (HB.out.cell (p := ⟨b, off + (k * 1 + 0), none⟩) hb).trans (hcell 0 _ rfl)
      simp only [Nat.add_zero, Nat.mul_one] at i0
      have HX := Lib.hid hx
      have hxz := HZ.out x (List.mem_of_getElem? hx)
      have HCC := Lib.hid (HC.out wr x (Blk.below HG.out HB.out HLT.out) hxz.1 hxz.2)
      clear hx hcell
      have hk0 : (0 : Int) ≤ (k : Int) := by omega
      have hk1 : (k : Int) < (n : Int) := by omega
      obtain ⟨Ao, co, hov⟩ := own_slice HO.out
      subst hov
      obtain ⟨i0', hi0, hz0, hz1, hz2⟩ := info_of2 infoI2
      have HI0 := Lib.hid (And.intro hi0 (And.intro hz0 (And.intro hz1 hz2)))
      have HR := Lib.hid (reads_one wr (.int .i64 (mvX M x)) 3)
      have hsz := HB.out.size
      have HTK : Hid (((zs.take (k + 1)).map (mvX M)).map (Value.int .i64) = ((zs.take k).map (mvX M)).map (Value.int .i64) ++ [.int .i64 (mvX M x)]) := Lib.hid (by rw [List.take_add_one, HX.out]; simp)
      clear hi0 hz0 hz1 hz2 hxz
      go_wp2_with (first
        | (go_at_call 56; refine HCC.out.mono ?_; rintro e w1 ⟨rfl, rfl⟩)
        | (at_builtin; refine wpList_append_any _ rfl (.tmp 13) (.tmp 20) _ rfl w.heap.size 3 i0' _ 1 8 Try.underlying22 HI0.out.1 HI0.out.2.1 HI0.out.2.2.1 HI0.out.2.2.2 rfl (by omega) (.slice Ao k co) k (((zs.take k).map (mvX M)).map (Value.int .i64)) rfl (HO.out.alloc _) (w1.heap.size + 1) (some ⟨w1.heap.size, 0, none⟩) 1 1 [.int .i64 (mvX M x)] rfl HR.out (by simp [Value.oneCell']) (by simp only [maxLen]; omega) (by omega) (by simp; omega) ?_; intro v3 w3 hown3 hg3 hat3; have HB3 := Lib.hid ((HB.out.alloc hsz (.cells #[.int .i64 (mvX M x)] 3)).grown hg3 (by simp; omega) (fun g hg => (HO.out.lt g hg).1)); have HO3 := Lib.hid hown3; clear hown3 hg3 hat3))
      go_roundg (n - (k + 1))
      case measure => omega
      case rel => exact ⟨k + 1, by omega, by go_num, rfl, by rw [HTK.out]; exact HO3.out, HB3.out⟩
    · have hke : k = n := by omega
      subst hke
      go_wp2
      go_ret
      have := HO.out
      rw [List.take_of_length_le (by rw [HN.out]; exact Nat.le_refl _)] at this
      exact ⟨_, rfl, this, HB.out⟩

theorem results_cell_oneH {fn : Func} {p q : Tmp} {ty : TypeId} {P : Program} (h : fn.results = #[.cell p ty, .tmp q]) (tmps : Array Value) (w : World) (g : Nat) (t : TypeId) (cs : Array Value) (fr : Nat × Nat) (d : TypeDesc)
    (hp : tmps.getD p undef = .pointer (some ⟨g, 0, none⟩)) (hg : w.heap[g]? = some (.cells cs t fr))
    (hu : P.underlying ty = some d) (hd : (match d with | .struct _ | .array _ _ => true | _ => false) = true) (hi : (P.info? ty).map (·.size) = some cs.size) (v : Value) (hv : tmps.getD q undef = v) :
    (results fn tmps).run P w = .ok (.tuple #[.agg cs, v]) w := by
  have hp' : tmps[p]?.getD undef = .pointer (some ⟨g, 0, none⟩) := by simpa using hp
  subst hv
  have hl := run_loadVar_row w g t ty cs fr d hg hu (by cases d <;> first | rfl | exact hd) hi
  simp [results, h, hp', asAddr, hl]
theorem own_raise {w : World} {B B' k n : Nat} {t : TypeId} {v : Value} {xs : List Value} (h : w.ownsRow B t k v n xs) (hb : ∀ g, v.ownBlock = some g → B' ≤ g) : w.ownsRow B' t k v n xs := by
  refine ⟨h.1, ?_⟩
  rcases h.2 with h1 | ⟨g, cap, cur, hv, _, h2, h3, h4, h5, h6⟩
  · exact .inl h1
  · exact .inr ⟨g, cap, cur, hv, hb g (by rw [hv]; rfl), h2, h3, h4, h5, h6⟩
/-- One cell of a row of threes is written. -/
theorem own_cell3 {w : World} {B g n cap q : Nat} {t : TypeId} {LL : List Tri} (h : w.ownsRow B t 3 (.slice (some ⟨g, 0, none⟩) n cap) LL.length (LL.flatMap encT)) {z z' : Tri} (hq : LL[q]? = some z) (j : Nat) (hj : j < 3) (x : Int) (hx : encT z' = (encT z).set j (.int .i64 x)) :
    (w.setCell ⟨g, q * 3 + j, none⟩ (.int .i64 x)).ownsRow B t 3 (.slice (some ⟨g, 0, none⟩) n cap) (LL.set q z').length ((LL.set q z').flatMap encT) := by
  have hql := (List.getElem?_eq_some_iff.1 hq).1
  have hl := h.1
  rcases h.2 with ⟨hv, hn0⟩ | ⟨g', cap', cur, hv, hB, hh, h1, h2, h3, h4⟩
  · cases hv
  · injection hv with e1 e2 e3
    injection e1 with e1
    injection e1 with e1
    subst e1 e3
    have hb : Blk w g t cur := hh
    have hset : (LL.set q z').flatMap encT = (LL.flatMap encT).set (q * 3 + j) (.int .i64 x) := by
      clear h hl h4 h3 h2 h1 hh hb e2 hql
      induction LL generalizing q with
      | nil => cases hq
      | cons y r ih =>
        cases q with
        | zero =>
          obtain rfl : y = z := by simpa using hq
          rw [List.set_cons_zero, List.flatMap_cons, List.flatMap_cons, hx, Nat.zero_mul, Nat.zero_add, List.set_append_left _ _ (by rw [lenT]; exact hj)]
        | succ q =>
          have := ih (q := q) (by simpa using hq)
          rw [List.set_cons_succ, List.flatMap_cons, List.flatMap_cons, this, List.set_append_right _ _ (by rw [lenT]; omega), lenT, show (q + 1) * 3 + j - 3 = q * 3 + j by omega]
    refine ⟨by rw [hset, List.length_set, List.length_set]; exact hl, .inr ⟨g, cap, cur.setIfInBounds (q * 3 + j) (.int .i64 x), by rw [e2, List.length_set], hB, Blk.set_ hb _ _, by rw [List.length_set]; exact h1, h2, by simpa using h3, ?_⟩⟩
    rw [Array.toList_setIfInBounds, hset, ← h4, List.take_set, List.length_set]
abbrev AvB (gm bo : Nat) (V : CV) (k : Nat) : Prop := k ≠ gm ∧ k ≠ bo ∧ V.i.ownBlock ≠ some k ∧ V.l.ownBlock ≠ some k ∧ V.a.ownBlock ≠ some k ∧ V.j.ownBlock ≠ some k ∧ V.s.ownBlock ≠ some k ∧ V.t.ownBlock ≠ some k
/-- What memory holds while the document builds a circuit anew. -/
structure B0 (w0 wx : World) (Bc gm bo cx : Nat) (OUT : Array Value) (b : Bd) (M : List Int) (V : CV) (I : List Int) (LL : List Tri) (C : Circ) (us : List Value) : Prop where
  rr : RR w0 wx Bc gm bo OUT M V I LL C.ands C us
  bld : ∃ F, HR wx cx b F ∧ ∀ k, F k → w0.heap.size ≤ k ∧ AvB gm bo V k
section
variable {w0 wx w2 : World} {Bc gm bo cx : Nat} {OUT : Array Value} {b b' : Bd} {M : List Int} {V : CV} {I : List Int} {LL : List Tri} {C : Circ} {us : List Value} {F : Nat → Prop}
theorem B0.on (h : B0 w0 wx Bc gm bo cx OUT b M V I LL C us) (hb : Below wx.heap.size wx w2) : B0 w0 w2 Bc gm bo cx OUT b M V I LL C us := by
  obtain ⟨F, f1, f2⟩ := h.bld
  exact ⟨h.rr.on hb, F, f1.below hb, f2⟩
theorem B0.drew (h : B0 w0 wx Bc gm bo cx OUT b M V I LL C us) : B0 w0 wx.drew Bc gm bo cx OUT b M V I LL C us := h.on (Below.refl _ _).drew
theorem B0.alloc (h : B0 w0 wx Bc gm bo cx OUT b M V I LL C us) (o : Obj) : B0 w0 (wx.alloc o) Bc gm bo cx OUT b M V I LL C us := h.on ((Below.refl _ _).alloc (Nat.le_refl _) o)
theorem B0.did (h : B0 w0 wx Bc gm bo cx OUT b M V I LL C us) (f2 : ∀ k, F k → w0.heap.size ≤ k ∧ AvB gm bo V k) (d : DidR wx w2 cx F b') : B0 w0 w2 Bc gm bo cx OUT b' M V I LL C us := by
  obtain ⟨F', k1, k2, k3⟩ := d
  have r := h.rr
  have hoth : ∀ g, g < wx.heap.size → ¬ F g → w2.heap[g]? = wx.heap[g]? := fun g h1 h2 => k2.block g h1 h2
  have ho : ∀ {t : TypeId} {k n : Nat} {v : Value} {xs : List Value}, wx.ownsRow Bc t k v n xs → (∀ g, v.ownBlock = some g → ¬ F g) → w2.ownsRow Bc t k v n xs := fun hr hn =>
    own_of_block hr fun g hg => hoth g (hr.lt g hg).2 (hn g hg)
  have hbel : Below w0.heap.size w0 w2 := by
    have hz := r.below.size
    exact ⟨k2.os.trans r.below.os, k2.tape.trans r.below.tape, k2.output.trans r.below.output, Nat.le_trans hz k2.size, fun k hk => (hoth k (by omega) (fun hf => by have := (f2 k hf).1; omega)).trans (r.below.block k hk)⟩
  have hr2 : RR w0 w2 Bc gm bo OUT M V I LL C.ands C us := by
    refine ⟨hbel, r.w0l, r.gml, r.bol, (hoth gm (Blk.lt r.nums) (fun hf => (f2 _ hf).2.1 rfl)).trans r.nums, (hoth bo r.box.lt (fun hf => (f2 _ hf).2.2.1 rfl)).trans r.box, ?_, ?_, ?_, ?_, ?_, ?_⟩
    · exact ho r.i fun g hg hf => (f2 g hf).2.2.2.1 hg
    · exact ho r.l fun g hg hf => (f2 g hf).2.2.2.2.1 hg
    · exact ho r.a fun g hg hf => (f2 g hf).2.2.2.2.2.1 hg
    · exact ho r.j fun g hg hf => (f2 g hf).2.2.2.2.2.2.1 hg
    · exact ho r.s fun g hg hf => (f2 g hf).2.2.2.2.2.2.2.1 hg
    · exact ho r.t fun g hg hf => (f2 g hf).2.2.2.2.2.2.2.2 hg
  refine ⟨hr2, F', k1, fun k hk => ?_⟩
  rcases k3 k hk with q | q
  · exact f2 k q
  · have hz := r.below.size
    have l1 := Blk.lt r.nums
    have l2 := r.box.lt
    refine ⟨by omega, by omega, by omega, ?_, ?_, ?_, ?_, ?_, ?_⟩
    · intro e; have := (r.i.lt k e).2; omega
    · intro e; have := (r.l.lt k e).2; omega
    · intro e; have := (r.a.lt k e).2; omega
    · intro e; have := (r.j.lt k e).2; omega
    · intro e; have := (r.s.lt k e).2; omega
    · intro e; have := (r.t.lt k e).2; omega
theorem B0.put_ (h : B0 w0 wx Bc gm bo cx OUT b M V I LL C us) {p : Addr} {u : Value} (hp : ∀ F, HR wx cx b F → (∀ k, F k → w0.heap.size ≤ k ∧ AvB gm bo V k) → ¬ F p.block) {OUT' : Array Value} {M' : List Int} {I' : List Int} {LL' : List Tri} {us' : List Value} (hr : RR w0 (wx.setCell p u) Bc gm bo OUT' M' V I' LL' C.ands C us') : B0 w0 (wx.setCell p u) Bc gm bo cx OUT' b M' V I' LL' C us' := by
  obtain ⟨F, f1, f2⟩ := h.bld
  refine ⟨hr, F, ?_, f2⟩
  have hn := hp F f1 f2
  obtain ⟨gv, h1, rfl⟩ := f1
  have e : ∀ g, g ≠ p.block → (wx.setCell p u).heap[g]? = wx.heap[g]? := fun g hg => Below.heap_setCell _ _ _ _ hg
  exact ⟨gv, ⟨(e cx (fun he => hn (he ▸ .inl rfl))).trans h1.box, own_of_block h1.row fun g hg => e g (fun he => hn (he ▸ .inr hg)), h1.ok⟩, rfl⟩
theorem B0.setM (h : B0 w0 wx Bc gm bo cx OUT b M V I LL C us) (q : Nat) (x : Int) : B0 w0 (wx.setCell ⟨gm, q, none⟩ (.int .i64 x)) Bc gm bo cx OUT b (M.set q x) V I LL C us :=
  h.put_ (fun _ _ f2 hf => (f2 _ hf).2.1 rfl) (h.rr.setM q x)
theorem B0.setB (h : B0 w0 wx Bc gm bo cx OUT b M V I LL C us) (k : Nat) (u : Value) : B0 w0 (wx.setCell ⟨bo, k, none⟩ u) Bc gm bo cx (OUT.setIfInBounds k u) b M V I LL C us :=
  h.put_ (fun _ _ f2 hf => (f2 _ hf).2.2.1 rfl) (h.rr.setB k u)
theorem B0.setI (h : B0 w0 wx Bc gm bo cx OUT b M V I LL C us) {g N cap q : Nat} (hV : V.i = .slice (some ⟨g, 0, none⟩) N cap) (hq : q < I.length) (x : Int) : B0 w0 (wx.setCell ⟨g, q, none⟩ (.int .i64 x)) Bc gm bo cx OUT b M V (I.set q x) LL C us :=
  h.put_ (fun _ _ f2 hf => (f2 _ hf).2.2.2.1 (by rw [hV]; rfl)) (h.rr.setI hV hq x)
theorem B0.setJ (h : B0 w0 wx Bc gm bo cx OUT b M V I LL C us) {g N cap q : Nat} (hV : V.j = .slice (some ⟨g, 0, none⟩) N cap) (hq : q < us.length) (x : Value) : B0 w0 (wx.setCell ⟨g, q, none⟩ x) Bc gm bo cx OUT b M V I LL C (us.set q x) :=
  h.put_ (fun _ _ f2 hf => (f2 _ hf).2.2.2.2.2.2.1 (by rw [hV]; rfl)) (h.rr.setJ hV hq x)
theorem B0.setL1 (h : B0 w0 wx Bc gm bo cx OUT b M V I LL C us) {g N cap q : Nat} (hV : V.l = .slice (some ⟨g, 0, none⟩) N cap) {z z' : Tri} (hq : LL[q]? = some z) (j : Nat) (hj : j < 3) (x : Int) (hx : encT z' = (encT z).set j (.int .i64 x)) : B0 w0 (wx.setCell ⟨g, q * 3 + j, none⟩ (.int .i64 x)) Bc gm bo cx OUT b M V I (LL.set q z') C us := by
  have r := h.rr
  have h1 := r.gml
  have h0 := r.w0l
  have hl := r.l
  rw [hV] at hl
  have hlt := (List.getElem?_eq_some_iff.1 hq).1
  obtain ⟨g', cap', hv, hB, _, ⟨cs, hblk⟩, _⟩ := own_cells3 hl (by omega)
  injection hv with e1 e2 e3
  injection e1 with e1
  injection e1 with e1
  subst e1
  have hoth : ∀ k, k ≠ g → (wx.setCell ⟨g, q * 3 + j, none⟩ (.int .i64 x)).heap[k]? = wx.heap[k]? := fun k hk => Below.heap_setCell _ _ _ _ hk
  have hk2 : ∀ {t : TypeId} {k' n B : Nat} {v : Value} {xs : List Value}, wx.ownsRow B t k' v n xs → t ≠ 78 → (wx.setCell ⟨g, q * 3 + j, none⟩ (.int .i64 x)).ownsRow B t k' v n xs := fun ho ht =>
    own_of_block ho fun g2 hg2 => hoth _ (fun e => own_blk_ne ho hblk ht (by rw [hg2, e]))
  refine h.put_ (fun _ _ f2 hf => (f2 _ hf).2.2.2.2.1 (by rw [hV]; rfl)) ⟨r.below.setCell (by simp; omega) _, h0, h1, r.bol, (hoth _ (by omega)).trans r.nums, (hoth _ (fun e => r.box.ne_ hblk (by decide) e)).trans r.box, hk2 r.i (by decide), ?_, hk2 r.a (by decide), hk2 r.j (by decide), hk2 r.s (by decide), hk2 r.t (by decide)⟩
  rw [hV]
  exact own_cell3 hl hq j hj x hx
end
end Go.Proofs.Ytilbgopdciiadaa
