/- Where the letters of a text stand, and what can come behind each, as the reference finds it (R15.Places). -/
import Derived.Test.YtkkmdcnbifepjaaDoorPDE
namespace Go.Proofs.YtkkmdcnbifepjaaDoor
open Go.RowKit
set_option linter.unusedVariables false
set_option linter.unusedSimpArgs false

theorem Tryd.infoE : (Tryd.prog.info? 100).map (fun i => (i.zero, i.size, i.bytes)) = some (some (.agg #[.bool false, .int .i64 0, .int .i64 0]), 3, 24) := by kernel_rfl
theorem Tryd.infoST : (Tryd.prog.info? 102).map (fun i => (i.zero, i.size, i.bytes)) = some (some (.agg #[.int .i64 0, .int .i64 0, .int .i64 0]), 3, 24) := by kernel_rfl
abbrev zA : Array Value := #[.int .i64 0, .int .i64 0, .slice none 0 0, .slice none 0 0, .slice none 0 0]
theorem make_numsP (w : World) (n : Nat) (hn : n ≤ 1000) : (Instr.makeSlice 22 (.int .i64 (n : Int)) (.int .i64 (n : Int))).run Tryd.prog w = .ok (.slice (some ⟨w.heap.size, 0, none⟩) n n) (w.alloc (.cells (Array.replicate n (Value.int .i64 0)) 3)) := by
  obtain ⟨i0, hi, hz0, hz1, hz2⟩ := info_parts Tryd.info3i
  have hmk := run_make (P := Tryd.prog) w 22 3 i0 (.int .i64 0) Tryd.underlying22 hi hz0 .i64 .i64 (n : Int) (n : Int) (by omega) (by omega) (by rw [hz2]; omega) (by omega)
  have e : madeCells (Value.cells (.int .i64 0)) n = Array.replicate n (Value.int .i64 0) := by
    apply Array.ext'
    simpa [Value.cells] using toList_madeCells_one (.int .i64 0) n
  rw [hz1, Nat.mul_one, Int.toNat_natCast, e] at hmk
  exact hmk
theorem news3E {W : World} {r : Rch} {b : Nat} (hb : W.heap.size = b) : ∀ j u, [Value.bool r.empty, .int .i64 (r.first : Int), .int .i64 (r.last : Int)][j]? = some u → (W.alloc (.cells #[.bool r.empty, .int .i64 (r.first : Int), .int .i64 (r.last : Int)] 100)).cell? ((⟨b, 0, none⟩ : Addr).add j) = some u := fun j u hu => by subst hb; exact World.news_of_block (c3_new W r) j u (by simpa using hu)

/-- While the parts are gone through. -/
structure PSt (w : World) (n : Nat) (S : PS) (i : Nat) (aE : Option Addr) (cE : Nat) (wr : World) : Prop where
  bh : RowB wr (w.heap.size + 1) 3 n n (fun j => .int .i64 (S.bh j : Int))
  sg : RowB wr (w.heap.size + 2) 3 n n (fun j => .int .i64 (S.sg j))
  es : wr.ownsRow (w.heap.size + 3) 100 3 (.slice aE i cE) i (flatE S.es)
  gr : w.grownBy wr none
  rb : wr.heap[w.heap.size]? = some (.cells zA 65 (0, 0))
theorem PSt.turn {w : World} {n : Nat} {S : PS} {i : Nat} {aE : Option Addr} {cE : Nat} {wr wr' : World} {P : Nat → Prop} (h : PSt w n S i aE cE wr) (ht : Turn P wr wr') (hP : ∀ g, P g → wr.heap.size ≤ g) : PSt w n S i aE cE wr' := by
  have hg : wr.grownBy wr' none := ht.grown hP
  exact ⟨h.bh.kept hg, h.sg.kept hg, h.es.kept hg (by cases aE <;> simp [Value.ownBlock]), grown_trans h.gr hg, (hg.block _ (Array.getElem?_eq_some_iff.1 h.rb).1 (by simp)).trans h.rb⟩
theorem PSt.kept {w : World} {n : Nat} {S : PS} {i : Nat} {aE : Option Addr} {cE : Nat} {wr wr' : World} (h : PSt w n S i aE cE wr) (hg : wr.grownBy wr' none) : PSt w n S i aE cE wr' := h.turn (Turn.of (S := fun _ => False) hg) (fun _ x => x.elim)
/-- One more is found. -/
theorem PSt.push {w : World} {n : Nat} {S S' : PS} {i g cap : Nat} {aE : Option Addr} {cE : Nat} {r : Rch} {wr w9 : World} (h : PSt w n S i aE cE wr) (he : S'.es = S.es ++ [r]) (hb : S'.bh = S.bh) (hs : S'.sg = S.sg)
    (ho : w9.ownsRow (w.heap.size + 3) 100 3 (.slice (some ⟨g, 0, none⟩) (i + 1) cap) (i + 1) (flatE S.es ++ [.bool r.empty, .int .i64 (r.first : Int), .int .i64 (r.last : Int)])) (hg : (wr.alloc (.cells #[.bool r.empty, .int .i64 (r.first : Int), .int .i64 (r.last : Int)] 100)).grownBy w9 (Value.slice aE i cE).ownBlock) : PSt w n S' (i + 1) (some ⟨g, 0, none⟩) cap w9 := by
  have hlt : ∀ b, (Value.slice aE i cE).ownBlock = some b → w.heap.size + 3 ≤ b := fun b hb => (h.es.lt b hb).1
  have hk := h.kept (grown_alloc wr (.cells #[.bool r.empty, .int .i64 (r.first : Int), .int .i64 (r.last : Int)] 100))
  refine ⟨?_, ?_, by rw [he, flatE_app]; exact ho, ?_, ?_⟩
  · rw [hb]; exact hk.bh.grownO hg fun b e => by have := hlt b e; omega
  · rw [hs]; exact hk.sg.grownO hg fun b e => by have := hlt b e; omega
  · cases hv : (Value.slice aE i cE).ownBlock with
    | none => rw [hv] at hg; exact grown_trans hk.gr hg
    | some b => rw [hv] at hg; have := hlt b hv; exact grown_new hk.gr hg (by omega)
  · refine (hg.block _ (Array.getElem?_eq_some_iff.1 hk.rb).1 ?_).trans hk.rb
    intro e
    have := hlt _ e.symm
    omega

/-- Another box is written. -/
theorem PSt.other {w : World} {n : Nat} {S : PS} {i b k : Nat} {aE : Option Addr} {cE : Nat} {wr : World} (h : PSt w n S i aE cE wr) (hb : w.heap.size + 3 ≤ b) (hne : (Value.slice aE i cE).ownBlock ≠ some b) (v : Value) : PSt w n S i aE cE (wr.setCell ⟨b, k, none⟩ v) := by
  have hg := grown_set wr ⟨b, k, none⟩ v
  exact ⟨h.bh.other (by omega) v, h.sg.other (by omega) v, h.es.kept hg (.inr hne), grown_new h.gr hg (by show _ ≤ b; omega), (Below.heap_setCell _ _ _ _ (by show _ ≠ b; omega)).trans h.rb⟩
/-- What can come behind a place is written. -/
theorem PSt.setBh {w : World} {n : Nat} {S : PS} {i j : Nat} {aE : Option Addr} {cE : Nat} {wr : World} (h : PSt w n S i aE cE wr) (hj : j < n) {f : Nat → Nat} {x : Int} (hx : x = (f j : Int)) (hf : ∀ y, y ≠ j → f y = S.bh y) : PSt w n ⟨f, S.sg, S.at_, S.es⟩ i aE cE (wr.setCell ⟨w.heap.size + 1, j, none⟩ (.int .i64 x)) := by
  have hg := grown_set wr ⟨w.heap.size + 1, j, none⟩ (.int .i64 x)
  refine ⟨(h.bh.set hj (.int .i64 x)).congr fun y hy => ?_, h.sg.other (by omega) _, ?_, grown_new h.gr hg (by show _ ≤ w.heap.size + 1; omega), (Below.heap_setCell _ _ _ _ (by show _ ≠ w.heap.size + 1; omega)).trans h.rb⟩
  · by_cases e : y = j
    · subst e; simp [hx]
    · simp [e, hf y e]
  · exact ownsRow_setCell_below h.es (by show w.heap.size + 1 < _; omega) _
theorem PSt.setSg {w : World} {n : Nat} {S : PS} {i j : Nat} {aE : Option Addr} {cE : Nat} {wr : World} (h : PSt w n S i aE cE wr) (hj : j < n) (x : Int) : PSt w n ⟨S.bh, fun y => if y = j then x else S.sg y, S.at_, S.es⟩ i aE cE (wr.setCell ⟨w.heap.size + 2, j, none⟩ (.int .i64 x)) := by
  have hg := grown_set wr ⟨w.heap.size + 2, j, none⟩ (.int .i64 x)
  refine ⟨h.bh.other (by omega) _, (h.sg.set hj (.int .i64 x)).congr fun y hy => ?_, ?_, grown_new h.gr hg (by show _ ≤ w.heap.size + 2; omega), (Below.heap_setCell _ _ _ _ (by show _ ≠ w.heap.size + 2; omega)).trans h.rb⟩
  · by_cases e : y = j
    · subst e; simp
    · simp [e]
  · exact ownsRow_setCell_below h.es (by show w.heap.size + 2 < _; omega) _
theorem PSt.congr {w : World} {n : Nat} {S S' : PS} {i : Nat} {aE : Option Addr} {cE : Nat} {wr : World} (h : PSt w n S i aE cE wr) (hb : ∀ j, j < n → S'.bh j = S.bh j) (hs : S'.sg = S.sg) (he : S'.es = S.es) : PSt w n S' i aE cE wr :=
  ⟨h.bh.congr fun j hj => by rw [hb j hj], by rw [hs]; exact h.sg, by rw [he]; exact h.es, h.gr, h.rb⟩

/-- An append, under a name that the walk does not open. -/
def AppP (ts : Array TypeId) (ty : TypeId) (args : Array Value) : Sem Value := Builtin.append_ ts ty args
theorem appP_fold (ts : Array TypeId) (ty : TypeId) (args : Array Value) : Builtin.append_ ts ty args = AppP ts ty args := rfl

attribute [local go_sem ↓] appP_fold in
set_option maxHeartbeats 12800000 in
set_option maxRecDepth 100000 in
theorem places_any (letters : Int) (ps : List PartR) (n k : Nat) (m : Rx) (hM : Means ps 0 k m) (hk : k + 1 = ps.length) (hps : ps.length ≤ 13000) (hn : (runS ps ps.length).at_ = n) (hn10 : n ≤ 10) (w : World) (L : Value) (hL : PL w L ps) :
    Calls Tryd.prog 26 #[.int .i64 letters, L, .int .i64 (n : Int)] w (PlcPost letters n (runS ps ps.length) w) := by
  obtain ⟨gL, capL, rfl, _, _⟩ := hL.own.form (by omega)
  have HL : Hid (PL w (.slice (some ⟨gL, 0, none⟩) ps.length capL) ps) := hL
  obtain ⟨i0, hio, hz0, hz1, hz2⟩ := info_parts Tryd.infoE
  have HMn : Hid (∀ i, i < ps.length → ∃ p, ps[i]? = some p ∧ POk i p) := fun i hi => by
    obtain ⟨st', m', h⟩ := means_all hM i (Nat.zero_le _) (by omega)
    exact means_ok h
  have HAt : Hid (∀ i, i ≤ ps.length → (runS ps i).at_ ≤ n) := fun i hi => by rw [← hn]; exact at_le ps hi
  have HBd : Hid (∀ i, i ≤ ps.length → Bnd (runS ps i)) := fun i hi => run_bnd ps i (by have := HAt.out i hi; omega)
  have HRn : Hid (∀ i, (runS ps i).es.length = i) := run_len ps
  obtain ⟨Po, hPo⟩ : ∃ Po, Po = PlcPost letters n (runS ps ps.length) w := ⟨_, rfl⟩
  have HPo : Hid (Po = PlcPost letters n (runS ps ps.length) w) := hPo
  rw [← hPo]
  have HKL : Hid (k + 1 = ps.length) := hk
  have HNn : Hid ((runS ps ps.length).at_ = n) := hn
  have hmk := fun W => make_numsP W n (by omega)
  obtain ⟨W3, hW3⟩ : ∃ W3, W3 = ((w.alloc (.cells zA 65)).alloc (.cells (Array.replicate n (Value.int .i64 0)) 3)).alloc (.cells (Array.replicate n (Value.int .i64 0)) 3) := ⟨_, rfl⟩
  have HW3 : Hid (W3 = ((w.alloc (.cells zA 65)).alloc (.cells (Array.replicate n (Value.int .i64 0)) 3)).alloc (.cells (Array.replicate n (Value.int .i64 0)) 3)) := hW3
  have P0 : Hid (PSt w n (runS ps 0) 0 none 0 W3) := by
    have r1 := RowB.make (w.alloc (.cells zA 65)) 3 n (.int .i64 0)
    have r2 := RowB.make ((w.alloc (.cells zA 65)).alloc (.cells (Array.replicate n (Value.int .i64 0)) 3)) 3 n (.int .i64 0)
    have b0 := heap_alloc_new w (.cells zA 65)
    have g12 : (w.alloc (.cells zA 65)).grownBy W3 none := by rw [hW3]; exact grown_trans (grown_alloc _ _) (grown_alloc _ _)
    simp only [World.size_alloc] at r1 r2
    rw [← hW3] at r2
    have r1' : RowB W3 (w.heap.size + 1) 3 n n (fun _ => .int .i64 0) := by rw [hW3]; exact r1.kept (grown_alloc _ _)
    exact ⟨r1'.congr (f' := fun j => .int .i64 ((runS ps 0).bh j : Int)) (fun i hi => rfl), r2.congr (f' := fun j => .int .i64 ((runS ps 0).sg j)) (fun i hi => rfl), World.ownsRow_nil _ _ _ _, grown_trans (grown_alloc _ _) g12, (g12.block _ (by simp) (by simp)).trans b0⟩
  clear hM hk hn hL hPo hW3
  go_enter Tryd.func26, Tryd.ntmps26
  go_wp2_with fail
  rw [← HW3.out]
  clear hmk HW3
  go_loopw [9, 10, 11] (fun e a v wr => ∃ (i : Nat) (aE : Option Addr) (cE : Nat), i ≤ ps.length ∧ v = .int .i64 i ∧ a = .int .i64 ((runS ps i).at_ : Int) ∧ e = .slice aE i cE ∧ PSt w n (runS ps i) i aE cE wr) (fun _ _ v _ => ps.length - (intOf v).toNat)
  case atStart => exact ⟨0, none, 0, Nat.zero_le _, rfl, rfl, rfl, P0.out⟩
  case round =>
    clear P0
    rename World => wr
    obtain ⟨i, aE, cE, hi, rfl, rfl, rfl, hst⟩ := hrel
    have ST : Hid (PSt w n (runS ps i) i aE cE wr) := hst
    have HAi := HAt.out i hi
    have HBi : Hid (Bnd (runS ps i)) := HBd.out i hi
    have HRi : Hid ((runS ps i).es.length = i) := HRn.out i
    have HSi : Hid (runS ps (i + 1) = stepS (ps.getD i p0) (runS ps i)) := rfl
    have HLast : Hid (i = ps.length → runS ps i = runS ps ps.length) := fun e => by rw [← e]
    clear hst
    generalize runS ps i = S at *
    by_cases hlt : i < ps.length
    · have hii : (i : Int) < (ps.length : Int) := by omega
      obtain ⟨p, hp, hok⟩ := HMn.out i hlt
      obtain ⟨gL', capL', eL, cl0, cl1, cl2⟩ := (HL.out.kept ST.out.gr).get hp
      cases eL
      obtain ⟨kva, kvn, kvc, hkv⟩ := ((HL.out.kept ST.out.gr).at_ p (List.mem_of_getElem? hp)).1
      have HKI : Hid (KidsAt (fun _ => True) w p) := HL.out.at_ p (List.mem_of_getElem? hp)
      have HStp : Hid (runS ps (i + 1) = stepS p S) := by have h1 := HSi.out; rw [get_of hp] at h1; exact h1
      obtain ⟨Wp, hWp⟩ : ∃ Wp, Wp = wr.alloc (.cells #[.int .i64 p.kind, .int .i64 p.let_, p.kv] 97) := ⟨_, rfl⟩
      have bp := heap_alloc_new wr (.cells #[.int .i64 p.kind, .int .i64 p.let_, p.kv] 97)
      obtain ⟨Wx, hWx⟩ : ∃ Wx, Wx = Wp.alloc (.cells #[.bool false, .int .i64 0, .int .i64 0] 100) := ⟨_, rfl⟩
      have hsp : Wp.heap.size = wr.heap.size + 1 := by rw [hWp]; simp
      have hsx : Wx.heap.size = wr.heap.size + 2 := by rw [hWx]; simp [hsp]
      have CX : Hid (C3 Wx (wr.heap.size + 1) e0) := by
        have := c3_new Wp e0
        rw [hsp] at this
        rw [hWx]; exact this
      have gpx : Wp.grownBy Wx none := by rw [hWx]; exact grown_alloc _ _
      have GX : Hid (wr.grownBy Wx none) := grown_trans (by rw [hWp]; exact grown_alloc _ _) gpx
      have BP : Hid (∀ W', Turn (fun g => wr.heap.size + 1 ≤ g ∨ g < w.heap.size + 3) Wx W' → w.heap.size + 3 ≤ wr.heap.size → W'.cell? ⟨wr.heap.size, 0, none⟩ = some (.int .i64 p.kind) ∧ W'.cell? ⟨wr.heap.size, 1, none⟩ = some (.int .i64 p.let_) ∧ W'.cell? ⟨wr.heap.size, 2, none⟩ = some p.kv) := fun W' hW' hB => by
        rw [← hWp] at bp
        have b1 : Wx.heap[wr.heap.size]? = _ := (gpx.block _ (by rw [hsp]; omega) (by simp)).trans bp
        have b2 : W'.heap[wr.heap.size]? = _ := (hW'.block _ (by rw [hsx]; omega) (by omega)).trans b1
        exact ⟨by rw [cell_of_row _ _ _ _ _ (0, 0) b2]; rfl, by rw [cell_of_row _ _ _ _ _ (0, 0) b2]; rfl, by rw [cell_of_row _ _ _ _ _ (0, 0) b2]; rfl⟩
      have HB3 : Hid (w.heap.size + 3 ≤ wr.heap.size) := by
        have := ST.out.sg.lt
        show _ ≤ _
        omega
      have HWx : Hid (Wx = (wr.alloc (.cells #[.int .i64 p.kind, .int .i64 p.let_, p.kv] 97)).alloc (.cells #[.bool false, .int .i64 0, .int .i64 0] 100)) := by show _ = _; rw [hWx, hWp]
      have HSx : Hid (Wx.heap.size = wr.heap.size + 2) := hsx
      have PX : Hid (PSt w n S i aE cE Wx) := ST.out.kept GX.out
      have HOx : Hid (∀ (W' : World) (r : Rch), PSt w n S i aE cE W' → (W'.alloc (.cells #[.bool r.empty, .int .i64 (r.first : Int), .int .i64 (r.last : Int)] 100)).ownsRow (w.heap.size + 3) 100 3 (.slice aE i cE) i (flatE S.es)) := fun W' r hW' => (hW'.kept (grown_alloc _ _)).es
      obtain ⟨q0, q1, q2⟩ := BP.out Wx (Turn.refl _ _) HB3.out
      obtain ⟨x0, x1, x2⟩ := CX.out.get
      have xf0 := CX.out.fz 0
      have xf1 := CX.out.fz 1
      have xf2 := CX.out.fz 2
      rw [HWx.out] at q0 q1 q2 x0 x1 x2 xf0 xf1 xf2
      simp only [e0] at x0 x1 x2
      rw [hkv] at cl2 q0 q1 q2 x0 x1 x2 xf0 xf1 xf2 HWx
      have HKV : Hid (p.kv = .slice kva kvn kvc) := hkv
      clear hWp hWx bp gpx hsp hsx hp hkv
      cases hok with
      | none hk0 =>
        as_aux_lemma =>
          rw [hk0] at cl0 q0 q1 q2 x0 x1 x2 xf0 xf1 xf2 HWx
          have HE : Hid (stepS p S = ⟨S.bh, S.sg, S.at_, S.es ++ [e0]⟩) := by show _ = _; unfold stepS; rw [hk0]; simp
          clear hk0
          go_wp2_with (at_builtin; rw [← HWx.out]; refine wpList_append_lies _ rfl _ _ 98 rfl (w.heap.size + 3) 100 i0 (.agg #[.bool false, .int .i64 0, .int .i64 0]) 3 24 Tryd.underlying98 hio hz0 hz1 hz2 rfl (by decide) (.slice aE i cE) i (flatE S.es) rfl (HOx.out Wx e0 PX.out) ⟨wr.heap.size + 1 + 1, 0, none⟩ 1 1 [.bool (e0 : Rch).empty, .int .i64 ((e0 : Rch).first : Int), .int .i64 ((e0 : Rch).last : Int)] rfl rfl (news3E HSx.out) (by intro u hu; simp at hu; rcases hu with rfl | rfl | rfl <;> rfl) (by omega) (by unfold maxLen; omega) (by omega) (by have := HB3.out; have := HSx.out; simp; omega) (Wx.heap.size + 1) (by simp) ?_; intro g9 cap9 w9 ho9 hg9 hat9 _)
          have P9 : Hid (PSt w n (runS ps (i + 1)) (i + 1) (some ⟨g9, 0, none⟩) cap9 w9) := by
            show PSt _ _ _ _ _ _ _
            rw [HStp.out, HE.out]; exact (PX.out).push rfl rfl rfl ho9 hg9
          have HA9 : Hid ((runS ps (i + 1)).at_ = S.at_) := by show _ = _; rw [HStp.out, HE.out]
          clear ho9 hg9 hat9
          go_roundw
          case rel => exact ⟨i + 1, _, cap9, by omega, by go_num, by rw [HA9.out], rfl, P9.out⟩
          case measure => simp [intOf]; omega
      | empty hk0 =>
        as_aux_lemma =>
          rw [hk0] at cl0 q0 q1 q2 x0 x1 x2 xf0 xf1 xf2 HWx
          have HE : Hid (stepS p S = ⟨S.bh, S.sg, S.at_, S.es ++ [⟨0, 0, true⟩]⟩) := by show _ = _; unfold stepS; rw [hk0]; simp
          obtain ⟨W1, hW1⟩ : ∃ W1, W1 = (wr.alloc (.cells #[.int .i64 1, .int .i64 p.let_, .slice kva kvn kvc] 97)).alloc (.cells #[.bool true, .int .i64 0, .int .i64 0] 100) := ⟨_, rfl⟩
          have HW1 : Hid (W1 = (wr.alloc (.cells #[.int .i64 1, .int .i64 p.let_, .slice kva kvn kvc] 97)).alloc (.cells #[.bool true, .int .i64 0, .int .i64 0] 100)) := hW1
          have P1 : Hid (PSt w n S i aE cE W1) := ST.out.kept (by rw [hW1]; exact grown_trans (grown_alloc _ _) (grown_alloc _ _))
          have HS1 : Hid (W1.heap.size = wr.heap.size + 2) := by show _ = _; rw [hW1]; simp
          clear hk0 hW1
          go_wp2_with (at_builtin; rw [← HW1.out]; refine wpList_append_lies _ rfl _ _ 98 rfl (w.heap.size + 3) 100 i0 (.agg #[.bool false, .int .i64 0, .int .i64 0]) 3 24 Tryd.underlying98 hio hz0 hz1 hz2 rfl (by decide) (.slice aE i cE) i (flatE S.es) rfl (HOx.out W1 ⟨0, 0, true⟩ P1.out) ⟨wr.heap.size + 1 + 1, 0, none⟩ 1 1 [.bool (⟨0, 0, true⟩ : Rch).empty, .int .i64 ((⟨0, 0, true⟩ : Rch).first : Int), .int .i64 ((⟨0, 0, true⟩ : Rch).last : Int)] rfl rfl (news3E HS1.out) (by intro u hu; simp at hu; rcases hu with rfl | rfl | rfl <;> rfl) (by omega) (by unfold maxLen; omega) (by omega) (by have := HB3.out; have := HS1.out; simp; omega) (W1.heap.size + 1) (by simp) ?_; intro g9 cap9 w9 ho9 hg9 hat9 _)
          have P9 : Hid (PSt w n (runS ps (i + 1)) (i + 1) (some ⟨g9, 0, none⟩) cap9 w9) := by
            show PSt _ _ _ _ _ _ _
            rw [HStp.out, HE.out]; exact (P1.out).push rfl rfl rfl ho9 hg9
          have HA9 : Hid ((runS ps (i + 1)).at_ = S.at_) := by show _ = _; rw [HStp.out, HE.out]
          clear ho9 hg9 hat9
          go_roundw
          case rel => exact ⟨i + 1, _, cap9, by omega, by go_num, by rw [HA9.out], rfl, P9.out⟩
          case measure => simp [intOf]; omega
      | letter hk0 =>
        as_aux_lemma =>
          rw [hk0] at cl0 q0 q1 q2 x0 x1 x2 xf0 xf1 xf2 HWx
          have HE : Hid (stepS p S = ⟨S.bh, fun j => if j = S.at_ then p.let_ else S.sg j, S.at_ + 1, S.es ++ [⟨2 ^ S.at_, 2 ^ S.at_, false⟩]⟩) := by show _ = _; unfold stepS; rw [hk0]; simp
          have hatn : S.at_ < n := by have h1 := HAt.out (i + 1) (by omega); rw [HStp.out, HE.out] at h1; exact h1
          have s8 : Wx.cell? ⟨w.heap.size + 1 + 1, S.at_, none⟩ = some (.int .i64 (S.sg S.at_)) := PX.out.sg.cell hatn
          have sf8 : Wx.frozen? ⟨w.heap.size + 1 + 1, S.at_, none⟩ = false := PX.out.sg.frozen _
          have PS8 : Hid (PSt w n ⟨S.bh, fun y => if y = S.at_ then p.let_ else S.sg y, S.at_, S.es⟩ i aE cE (Wx.setCell ⟨w.heap.size + 1 + 1, S.at_, none⟩ (.int .i64 p.let_))) := PX.out.setSg hatn p.let_
          have CS8 : C3 (Wx.setCell ⟨w.heap.size + 1 + 1, S.at_, none⟩ (.int .i64 p.let_)) (wr.heap.size + 1) e0 := (Below.heap_setCell _ _ _ _ (by have := HB3.out; show _ ≠ w.heap.size + 1 + 1; omega)).trans CX.out
          have hsh : wrap64 ((2 : Int) ^ S.at_) = ((2 ^ S.at_ : Nat) : Int) := (IntWalk.i64_left _).symm.trans (pow_wrapP (by omega))
          obtain ⟨sh, hshv⟩ : ∃ sh, wrap64 ((2 : Int) ^ S.at_) = sh := ⟨_, rfl⟩
          obtain ⟨Wl, hWl⟩ : ∃ Wl, Wl = ((Wx.setCell ⟨w.heap.size + 1 + 1, S.at_, none⟩ (.int .i64 p.let_)).setCell ⟨wr.heap.size + 1, 1, none⟩ (.int .i64 sh)).setCell ⟨wr.heap.size + 1, 2, none⟩ (.int .i64 sh) := ⟨_, rfl⟩
          have CL : C3 Wl (wr.heap.size + 1) ⟨2 ^ S.at_, 2 ^ S.at_, false⟩ := by rw [hWl]; exact (CS8.set1 _ (hshv.symm.trans hsh)).set2 _ (hshv.symm.trans hsh)
          have HNo : Hid (∀ b, (Value.slice aE i cE).ownBlock = some b → b < wr.heap.size) := fun b hb => (ST.out.es.lt b hb).2
          have PL8 : Hid (PSt w n ⟨S.bh, fun y => if y = S.at_ then p.let_ else S.sg y, S.at_, S.es⟩ i aE cE Wl) := by
            show PSt _ _ _ _ _ _ _
            rw [hWl]
            exact (PS8.out.other (by have := HB3.out; omega) (fun e => by have := HNo.out _ e; omega) _).other (by have := HB3.out; omega) (fun e => by have := HNo.out _ e; omega) _
          have HWl : Hid (Wl = _) := hWl
          have HSl : Hid (Wl.heap.size = wr.heap.size + 2) := by show _ = _; rw [hWl]; simp [HSx.out]
          have HSH : Hid (sh = ((2 ^ S.at_ : Nat) : Int)) := hshv.symm.trans hsh
          have hati : ¬ (S.at_ : Int) < 0 := by omega
          have HOl : Hid (∀ (W' : World) (r : Rch), PSt w n ⟨S.bh, fun y => if y = S.at_ then p.let_ else S.sg y, S.at_, S.es⟩ i aE cE W' → (W'.alloc (.cells #[.bool r.empty, .int .i64 (r.first : Int), .int .i64 (r.last : Int)] 100)).ownsRow (w.heap.size + 3) 100 3 (.slice aE i cE) i (flatE S.es)) := fun W' r hW' => (hW'.kept (grown_alloc _ _)).es
          have xs0 := CS8.get.1
          have xs1 := CS8.get.2.1
          have xs2 := CS8.get.2.2
          have xg0 := CS8.fz 0
          have xg1 := CS8.fz 1
          have xg2 := CS8.fz 2
          obtain ⟨z0, z1, z2⟩ := CL.get
          simp only [e0] at xs0 xs1 xs2
          rw [HSH.out.symm] at z1 z2
          rw [hWl] at z0 z1 z2
          rw [HWx.out] at s8 sf8 xs0 xs1 xs2 xg0 xg1 xg2 z0 z1 z2 HWl
          clear hk0 hWl CL CS8 hsh
          go_wp2_with (at_builtin; rw [← HWl.out, HSH.out]; refine wpList_append_lies _ rfl _ _ 98 rfl (w.heap.size + 3) 100 i0 (.agg #[.bool false, .int .i64 0, .int .i64 0]) 3 24 Tryd.underlying98 hio hz0 hz1 hz2 rfl (by decide) (.slice aE i cE) i (flatE S.es) rfl (HOl.out Wl ⟨2 ^ S.at_, 2 ^ S.at_, false⟩ PL8.out) ⟨wr.heap.size + 1 + 1, 0, none⟩ 1 1 [.bool (⟨2 ^ S.at_, 2 ^ S.at_, false⟩ : Rch).empty, .int .i64 ((⟨2 ^ S.at_, 2 ^ S.at_, false⟩ : Rch).first : Int), .int .i64 ((⟨2 ^ S.at_, 2 ^ S.at_, false⟩ : Rch).last : Int)] rfl rfl (news3E HSl.out) (by intro u hu; simp at hu; rcases hu with rfl | rfl | rfl <;> rfl) (by omega) (by unfold maxLen; omega) (by omega) (by have := HB3.out; have := HSl.out; simp; omega) (Wl.heap.size + 1) (by simp) ?_; intro g9 cap9 w9 ho9 hg9 hat9 _)
          have P9 : Hid (PSt w n (runS ps (i + 1)) (i + 1) (some ⟨g9, 0, none⟩) cap9 w9) := by
            show PSt _ _ _ _ _ _ _
            rw [HStp.out, HE.out]; exact (PL8.out).push rfl rfl rfl ho9 hg9
          have HA9 : Hid ((runS ps (i + 1)).at_ = S.at_ + 1) := by show _ = _; rw [HStp.out, HE.out]
          clear ho9 hg9 hat9
          go_roundw
          case rel => exact ⟨i + 1, _, cap9, by omega, by go_num, by rw [HA9.out]; go_num, rfl, P9.out⟩
          case measure => simp [intOf]; omega
      | either hk0 h0 hl hk =>
        as_aux_lemma =>
          rw [hk0] at cl0 q0 q1 q2 x0 x1 x2 xf0 xf1 xf2 HWx
          have HE : Hid (stepS p S = ⟨S.bh, S.sg, S.at_, S.es ++ [altK S.es p.kids p.kids.length]⟩) := by show _ = _; unfold stepS; rw [hk0]; simp
          clear hk0
          have HKd : Hid (∃ gk ck, p.kv = .slice (some ⟨gk, 0, none⟩) p.kids.length ck ∧ ∀ t, t < p.kids.length → ∀ W, w.grownBy W none → W.cell? ⟨gk, t, none⟩ = some (.int .i64 (p.kids.getD t 0))) := by
            rcases HKI.out.2 with e | ⟨g, ck, _, hv, hc⟩
            · rw [e] at h0; simp at h0
            · exact ⟨g, ck, hv, fun t ht W hW => hW.cell (hc t ht) (by simp)⟩
          obtain ⟨gk, ck, hkv2, hkc⟩ := HKd.out
          rw [HKV.out] at hkv2
          cases hkv2
          have HKC : Hid (∀ t, t < p.kids.length → ∀ W, w.grownBy W none → W.cell? ⟨gk, t, none⟩ = some (.int .i64 (p.kids.getD t 0))) := hkc
          have HNo : Hid (∀ b, (Value.slice aE i cE).ownBlock = some b → b < wr.heap.size) := fun b hb => (ST.out.es.lt b hb).2
          have HKe : Hid (∀ t, t < p.kids.length → ∃ q : Nat, p.kids.getD t 0 = (q : Int) ∧ q < i) := hk
          have BPx : Hid (∀ W', Turn (fun g => wr.heap.size + 1 ≤ g ∨ g < w.heap.size + 3) Wx W' → W'.cell? ⟨wr.heap.size, 2, none⟩ = some (.slice (some ⟨gk, 0, none⟩) p.kids.length kvc)) := fun W' hW' => by have := (BP.out W' hW' HB3.out).2.2; rwa [HKV.out] at this
          clear hkc hk HKd
          generalize hkl : p.kids.length = kl at *
          have HKL2 : Hid (p.kids.length = kl) := hkl
          clear hkl
          go_wp2_with fail
          rw [← HWx.out]
          clear q0 q1 q2 x0 x1 x2 xf0 xf1 xf2 cl0 cl1 cl2 HWx
          go_loopw [14] (fun v wz => ∃ t : Nat, t ≤ kl ∧ v = .int .i64 t ∧ C3 wz (wr.heap.size + 1) (altK S.es p.kids t) ∧ PSt w n S i aE cE wz ∧ Turn (fun g => wr.heap.size + 1 ≤ g ∨ g < w.heap.size + 3) Wx wz) (fun v _ => kl - (intOf v).toNat)
          case atStart => exact ⟨0, Nat.zero_le _, rfl, CX.out, PX.out, Turn.refl _ _⟩
          case round =>
            rename World => wz
            obtain ⟨t, htl, rfl, hcx, hpz, hT⟩ := hrel
            have CZ : Hid (C3 wz (wr.heap.size + 1) (altK S.es p.kids t)) := hcx
            have PZ : Hid (PSt w n S i aE cE wz) := hpz
            have TZ : Hid (Turn (fun g => wr.heap.size + 1 ≤ g ∨ g < w.heap.size + 3) Wx wz) := hT
            have q2 := BPx.out wz hT
            have hab := alt_bnd HBi.out p.kids t
            clear hcx hpz hT
            by_cases htk : t < kl
            · have htki : (t : Int) < (kl : Int) := by omega
              obtain ⟨q, hq, hqi⟩ := HKe.out t htk
              have ck := HKC.out t htk wz PZ.out.gr
              rw [hq] at ck
              obtain ⟨gE, hgE, hgB, hgl, y0, y1, y2⟩ := ends_get PZ.out.es (k := q) (by rw [HRi.out]; exact hqi) HRi.out
              subst hgE
              have HKq : Hid (kidE S.es p.kids t = S.es.getD q e0) := by show _ = _; unfold kidE; rw [hq]; rfl
              have hkb := kid_bnd HBi.out p.kids t
              have HAK : Hid (altK S.es p.kids (t + 1) = altR (altK S.es p.kids t) (S.es.getD q e0)) := by show altR _ _ = _; rw [HKq.out]
              rw [HKq.out] at hkb
              have hqi2 : (q : Int) < (i : Int) := by omega
              obtain ⟨z0, z1, z2⟩ := CZ.out.get
              generalize S.es.getD q e0 = ry at *
              generalize altK S.es p.kids t = rx at *
              obtain ⟨xf, xl, xe⟩ := rx
              obtain ⟨yf, yl, ye⟩ := ry
              simp only at y0 y1 y2 z0 z1 z2 hkb hab
              have o1 := orP (s := xf) (t := yf) (by omega) (by omega)
              have o2 := orP (s := xl) (t := yl) (by omega) (by omega)
              have HXl : wr.heap.size + 1 < wz.heap.size := CZ.out.lt
              have zf0 := CZ.out.fz 0
              have zf1 := CZ.out.fz 1
              have zf2 := CZ.out.fz 2
              obtain ⟨Ws, hWs⟩ : ∃ Ws, Ws = ((wz.setCell ⟨wr.heap.size + 1, 0, none⟩ (.bool (xe || ye))).setCell ⟨wr.heap.size + 1, 1, none⟩ (.int .i64 ((xf ||| yf : Nat) : Int))).setCell ⟨wr.heap.size + 1, 2, none⟩ (.int .i64 ((xl ||| yl : Nat) : Int)) := ⟨_, rfl⟩
              obtain ⟨Wf, hWf⟩ : ∃ Wf, Wf = Ws.alloc (.cells #[.bool ye, .int .i64 (yf : Int), .int .i64 (yl : Int)] 100) := ⟨_, rfl⟩
              have gf : Ws.grownBy Wf none := by rw [hWf]; exact grown_alloc _ _
              have CF : Hid (C3 Wf (wr.heap.size + 1) (altK S.es p.kids (t + 1))) := by
                show C3 _ _ _
                rw [HAK.out]
                refine C3.kept (W := Ws) ?_ gf
                rw [hWs]
                exact ((CZ.out.set0 (xe || ye)).set1 (xf ||| yf) rfl).set2 (xl ||| yl) rfl
              have PF : Hid (PSt w n S i (some ⟨gE, 0, none⟩) cE Wf) := by
                show PSt _ _ _ _ _ _ _
                have hne : (Value.slice (some ⟨gE, 0, none⟩) i cE).ownBlock ≠ some (wr.heap.size + 1) := fun e => by have := HNo.out _ e; omega
                have hB := HB3.out
                refine PSt.kept (wr := Ws) ?_ gf
                rw [hWs]
                exact ((PZ.out.other (by omega) hne _).other (by omega) hne _).other (by omega) hne _
              have TF : Hid (Turn (fun g => wr.heap.size + 1 ≤ g ∨ g < w.heap.size + 3) Wx Wf) := by
                refine Turn.grow (b := Ws) ?_ gf
                rw [hWs]
                exact ((TZ.out.step (grown_set _ _ _) (.inl (.inl (Nat.le_refl _)))).step (grown_set _ _ _) (.inl (.inl (Nat.le_refl _)))).step (grown_set _ _ _) (.inl (.inl (Nat.le_refl _)))
              have HWf : Hid (Wf = (((wz.setCell ⟨wr.heap.size + 1, 0, none⟩ (.bool (xe || ye))).setCell ⟨wr.heap.size + 1, 1, none⟩ (.int .i64 ((xf ||| yf : Nat) : Int))).setCell ⟨wr.heap.size + 1, 2, none⟩ (.int .i64 ((xl ||| yl : Nat) : Int))).alloc (.cells #[.bool ye, .int .i64 (yf : Int), .int .i64 (yl : Int)] 100)) := by show _ = _; rw [hWf, hWs]
              clear hWf hWs CZ gf HAK HKq
              cases xe
              all_goals
                simp only [Bool.false_or, Bool.true_or] at HWf
                go_wp2_with fail
                go_roundw
                case rel => exact ⟨t + 1, by omega, by go_num, by rw [← HWf.out]; exact CF.out, by rw [← HWf.out]; exact PF.out, by rw [← HWf.out]; exact TF.out⟩
                case measure => simp [intOf]; omega
            · have htki : ¬ (t : Int) < (kl : Int) := by omega
              have htk2 : t = kl := by omega
              subst htk2
              obtain ⟨z0, z1, z2⟩ := CZ.out.get
              generalize altK S.es p.kids t = rx at *
              obtain ⟨xf, xl, xe⟩ := rx
              simp only at z0 z1 z2
              have hzs : wr.heap.size + 1 < wz.heap.size := CZ.out.lt
              go_wp2_with (at_builtin; refine wpList_append_lies _ rfl _ _ 98 rfl (w.heap.size + 3) 100 i0 (.agg #[.bool false, .int .i64 0, .int .i64 0]) 3 24 Tryd.underlying98 hio hz0 hz1 hz2 rfl (by decide) (.slice aE i cE) i (flatE S.es) rfl (HOx.out wz ⟨xf, xl, xe⟩ PZ.out) ⟨wz.heap.size, 0, none⟩ 1 1 [.bool (⟨xf, xl, xe⟩ : Rch).empty, .int .i64 ((⟨xf, xl, xe⟩ : Rch).first : Int), .int .i64 ((⟨xf, xl, xe⟩ : Rch).last : Int)] rfl rfl (news3E rfl) (by intro u hu; simp at hu; rcases hu with rfl | rfl | rfl <;> rfl) (by omega) (by unfold maxLen; omega) (by omega) (by have := HB3.out; simp; omega) (wz.heap.size + 1) (by simp) ?_; intro g9 cap9 w9 ho9 hg9 hat9 _)
              have P9 : Hid (PSt w n (runS ps (i + 1)) (i + 1) (some ⟨g9, 0, none⟩) cap9 w9) := by
                show PSt _ _ _ _ _ _ _
                rw [HStp.out, HE.out]; exact (PZ.out).push rfl rfl rfl ho9 hg9
              have HA9 : Hid ((runS ps (i + 1)).at_ = S.at_) := by show _ = _; rw [HStp.out, HE.out]
              clear ho9 hg9 hat9
              go_roundw
              case rel => exact ⟨i + 1, _, cap9, by omega, by go_num, by rw [HA9.out], rfl, P9.out⟩
              case measure => simp [intOf]; omega
      | row hk0 h0 hl hk =>
        as_aux_lemma =>
          rw [hk0] at cl0 q0 q1 q2 x0 x1 x2 xf0 xf1 xf2 HWx
          have HE : Hid (stepS p S = ⟨folK S.bh S.es p.kids p.kids.length, S.sg, S.at_, S.es ++ [catK S.es p.kids p.kids.length]⟩) := by show _ = _; unfold stepS; rw [hk0]; simp
          clear hk0
          have HKd : Hid (∃ gk ck, p.kv = .slice (some ⟨gk, 0, none⟩) p.kids.length ck ∧ ∀ t, t < p.kids.length → ∀ W, w.grownBy W none → W.cell? ⟨gk, t, none⟩ = some (.int .i64 (p.kids.getD t 0))) := by
            rcases HKI.out.2 with e | ⟨g, ck, _, hv, hc⟩
            · rw [e] at h0; simp at h0
            · exact ⟨g, ck, hv, fun t ht W hW => hW.cell (hc t ht) (by simp)⟩
          obtain ⟨gk, ck, hkv2, hkc⟩ := HKd.out
          rw [HKV.out] at hkv2
          cases hkv2
          have HKC : Hid (∀ t, t < p.kids.length → ∀ W, w.grownBy W none → W.cell? ⟨gk, t, none⟩ = some (.int .i64 (p.kids.getD t 0))) := hkc
          have HNo : Hid (∀ b, (Value.slice aE i cE).ownBlock = some b → b < wr.heap.size) := fun b hb => (ST.out.es.lt b hb).2
          have HKe : Hid (∀ t, t < p.kids.length → ∃ q : Nat, p.kids.getD t 0 = (q : Int) ∧ q < i) := hk
          have BPx : Hid (∀ W', Turn (fun g => wr.heap.size + 1 ≤ g ∨ g < w.heap.size + 3) Wx W' → W'.cell? ⟨wr.heap.size, 2, none⟩ = some (.slice (some ⟨gk, 0, none⟩) p.kids.length kvc)) := fun W' hW' => by have := (BP.out W' hW' HB3.out).2.2; rwa [HKV.out] at this
          clear hkc hk HKd
          generalize hkl : p.kids.length = kl at *
          have HKL2 : Hid (p.kids.length = kl) := hkl
          clear hkl
          obtain ⟨W1, hW1⟩ : ∃ W1, W1 = (wr.alloc (.cells #[.int .i64 4, .int .i64 p.let_, .slice (some ⟨gk, 0, none⟩) kl kvc] 97)).alloc (.cells #[.bool true, .int .i64 0, .int .i64 0] 100) := ⟨_, rfl⟩
          have HW1 : Hid (W1 = (wr.alloc (.cells #[.int .i64 4, .int .i64 p.let_, .slice (some ⟨gk, 0, none⟩) kl kvc] 97)).alloc (.cells #[.bool true, .int .i64 0, .int .i64 0] 100)) := hW1
          have P1 : Hid (PSt w n S i aE cE W1) := ST.out.kept (by rw [hW1]; exact grown_trans (grown_alloc _ _) (grown_alloc _ _))
          have HS1 : Hid (W1.heap.size = wr.heap.size + 2) := by show _ = _; rw [hW1]; simp
          have C1 : Hid (C3 W1 (wr.heap.size + 1) ⟨0, 0, true⟩) := by
            have := c3_new (wr.alloc (.cells #[.int .i64 4, .int .i64 p.let_, .slice (some ⟨gk, 0, none⟩) kl kvc] 97)) ⟨0, 0, true⟩
            rw [World.size_alloc] at this
            rw [hW1]; exact this
          have B1 : Hid (∀ W', Turn (fun g => wr.heap.size + 1 ≤ g ∨ g < w.heap.size + 3) W1 W' → W'.cell? ⟨wr.heap.size, 2, none⟩ = some (.slice (some ⟨gk, 0, none⟩) kl kvc)) := fun W' hW' => by
            have b0 := heap_alloc_new wr (.cells #[.int .i64 4, .int .i64 p.let_, .slice (some ⟨gk, 0, none⟩) kl kvc] 97)
            have b1 : W1.heap[wr.heap.size]? = some (.cells #[.int .i64 4, .int .i64 p.let_, .slice (some ⟨gk, 0, none⟩) kl kvc] 97 (0, 0)) := by rw [hW1]; exact (Below.heap_alloc _ _ _ (by simp)).trans b0
            have b2 : W'.heap[wr.heap.size]? = _ := (hW'.block _ (by rw [HS1.out]; omega) (by have := HB3.out; omega)).trans b1
            rw [cell_of_row _ _ _ _ _ (0, 0) b2]; rfl
          clear hW1
          go_wp2_with fail
          rw [← HW1.out]
          clear q0 q1 q2 x0 x1 x2 xf0 xf1 xf2 cl0 cl1 cl2 HWx HW1 CX PX GX BP BPx HSx
          go_loopw [16] (fun v wz => ∃ t : Nat, t ≤ kl ∧ v = .int .i64 t ∧ C3 wz (wr.heap.size + 1) (catK S.es p.kids t) ∧ PSt w n ⟨folK S.bh S.es p.kids t, S.sg, S.at_, S.es⟩ i aE cE wz ∧ Turn (fun g => wr.heap.size + 1 ≤ g ∨ g < w.heap.size + 3) W1 wz) (fun v _ => kl - (intOf v).toNat)
          case atStart => exact ⟨0, Nat.zero_le _, rfl, C1.out, P1.out, Turn.refl _ _⟩
          case round =>
            rename World => wz
            obtain ⟨t, htl, rfl, hcx, hpz, hT⟩ := hrel
            have CZ : Hid (C3 wz (wr.heap.size + 1) (catK S.es p.kids t)) := hcx
            have PZ : Hid (PSt w n ⟨folK S.bh S.es p.kids t, S.sg, S.at_, S.es⟩ i aE cE wz) := hpz
            have TZ : Hid (Turn (fun g => wr.heap.size + 1 ≤ g ∨ g < w.heap.size + 3) W1 wz) := hT
            have q2 := B1.out wz hT
            have hab := cat_bnd HBi.out p.kids t
            have HBb : Hid (∀ j, folK S.bh S.es p.kids t j < 2048) := folK_bnd HBi.out p.kids t
            clear hcx hpz hT
            by_cases htk : t < kl
            · have htki : (t : Int) < (kl : Int) := by omega
              obtain ⟨q, hq, hqi⟩ := HKe.out t htk
              have ck := HKC.out t htk wz PZ.out.gr
              rw [hq] at ck
              obtain ⟨gE, hgE, hgB, hgl, y0, y1, y2⟩ := ends_get PZ.out.es (k := q) (by show q < S.es.length; rw [HRi.out]; exact hqi) HRi.out
              have HaE : Hid (aE = some ⟨gE, 0, none⟩) := hgE
              have HKq : Hid (kidE S.es p.kids t = S.es.getD q e0) := by show _ = _; unfold kidE; rw [hq]; rfl
              have hkb := kid_bnd HBi.out p.kids t
              have HAK : Hid (catK S.es p.kids (t + 1) = catR (catK S.es p.kids t) (S.es.getD q e0)) := by show catR _ _ = _; rw [HKq.out]
              have HFK : Hid (folK S.bh S.es p.kids (t + 1) = folF (folK S.bh S.es p.kids t) (catK S.es p.kids t).last (S.es.getD q e0).first) := by show folF _ _ _ = _; rw [HKq.out]
              rw [HKq.out] at hkb
              have hqi2 : (q : Int) < (i : Int) := by omega
              obtain ⟨z0, z1, z2⟩ := CZ.out.get
              have hek : (⟨folK S.bh S.es p.kids t, S.sg, S.at_, S.es⟩ : PS).es = S.es := rfl
              rw [hek] at y0 y1 y2
              generalize S.es.getD q e0 = ry at *
              generalize catK S.es p.kids t = rx at *
              generalize folK S.bh S.es p.kids t = B at *
              obtain ⟨xf, xl, xe⟩ := rx
              obtain ⟨yf, yl, ye⟩ := ry
              simp only at y0 y1 y2 z0 z1 z2 hkb hab HFK
              obtain ⟨Wy, hWy⟩ : ∃ Wy, Wy = wz.alloc (.cells #[.bool ye, .int .i64 (yf : Int), .int .i64 (yl : Int)] 100) := ⟨_, rfl⟩
              have gy : wz.grownBy Wy none := by rw [hWy]; exact grown_alloc _ _
              have CJY0 : Hid (C3 Wy wz.heap.size ⟨yf, yl, ye⟩) := by rw [hWy]; exact c3_new wz ⟨yf, yl, ye⟩
              have CJ0 : Hid (C3 Wy (wr.heap.size + 1) ⟨xf, xl, xe⟩) := CZ.out.kept gy
              have HXz : Hid (wr.heap.size + 1 < wz.heap.size) := CZ.out.lt
              have PJ0 : Hid (PSt w n ⟨B, S.sg, S.at_, S.es⟩ i aE cE Wy) := PZ.out.kept gy
              have TJ0 : Hid (Turn (fun g => wr.heap.size + 1 ≤ g ∨ g < w.heap.size + 3) W1 Wy) := TZ.out.grow gy
              have HWy : Hid (Wy = wz.alloc (.cells #[.bool ye, .int .i64 (yf : Int), .int .i64 (yl : Int)] 100)) := hWy
              clear hWy gy HKq CZ PZ TZ
              subst hgE
              go_wp2_with fail
              rw [← HWy.out]
              clear HWy z0 z1 z2 y0 y1 y2 ck q2
              go_loopw [18] (fun v wj => ∃ j : Nat, j ≤ n ∧ v = .int .i64 j ∧ C3 wj (wr.heap.size + 1) ⟨xf, xl, xe⟩ ∧ C3 wj wz.heap.size ⟨yf, yl, ye⟩ ∧ PSt w n ⟨fun x => if x < j then folF B xl yf x else B x, S.sg, S.at_, S.es⟩ i (some ⟨gE, 0, none⟩) cE wj ∧ Turn (fun g => wr.heap.size + 1 ≤ g ∨ g < w.heap.size + 3) W1 wj) (fun v _ => n - (intOf v).toNat)
              case atStart => exact ⟨0, Nat.zero_le _, rfl, CJ0.out, CJY0.out, PJ0.out.congr (fun j hj => by simp) rfl rfl, TJ0.out⟩
              case round =>
                rename World => wj
                obtain ⟨j, hjn, rfl, hcx, hcy, hpj, hT⟩ := hrel
                have CJ : Hid (C3 wj (wr.heap.size + 1) ⟨xf, xl, xe⟩) := hcx
                have CYJ : Hid (C3 wj wz.heap.size ⟨yf, yl, ye⟩) := hcy
                have PJ : Hid (PSt w n ⟨fun x => if x < j then folF B xl yf x else B x, S.sg, S.at_, S.es⟩ i (some ⟨gE, 0, none⟩) cE wj) := hpj
                have TJ : Hid (Turn (fun g => wr.heap.size + 1 ≤ g ∨ g < w.heap.size + 3) W1 wj) := hT
                clear hcx hcy hpj hT
                obtain ⟨u0, u1, u2⟩ := CJ.out.get
                obtain ⟨v0, v1, v2⟩ := CYJ.out.get
                by_cases hjl : j < n
                · have hji : (j : Int) < (n : Int) := by omega
                  have hji0 : ¬ (j : Int) < 0 := by omega
                  have c7 : wj.cell? ⟨w.heap.size + 1, j, none⟩ = some (.int .i64 (B j : Int)) := by have := PJ.out.bh.cell hjl; simpa using this
                  have f7 := PJ.out.bh.frozen j
                  have hbit := shr_bitP (s := xl) (x := j) (by omega)
                  have hbj := HBb.out j
                  have o7 := orP (s := B j) (t := yf) (by omega) (by omega)
                  have HFo : Hid (folF B xl yf j = if xl.testBit j = true then B j ||| yf else B j) := rfl
                  cases hb : xl.testBit j with
                  | true =>
                    rw [hb] at hbit HFo
                    simp only [if_true] at hbit HFo
                    obtain ⟨Wn, hWn⟩ : ∃ Wn, Wn = wj.setCell ⟨w.heap.size + 1, j, none⟩ (.int .i64 ((B j ||| yf : Nat) : Int)) := ⟨_, rfl⟩
                    have PN : Hid (PSt w n ⟨fun x => if x < j + 1 then folF B xl yf x else B x, S.sg, S.at_, S.es⟩ i (some ⟨gE, 0, none⟩) cE Wn) := by
                      have h1 := PJ.out.setBh (j := j) hjl (f := fun x => if x < j + 1 then folF B xl yf x else B x) (x := ((B j ||| yf : Nat) : Int)) (by simp [HFo.out]) (fun y hy => by
                        by_cases e : y < j
                        · simp [e, show y < j + 1 by omega]
                        · simp [e, show ¬ y < j + 1 by omega])
                      show PSt _ _ _ _ _ _ _
                      rw [hWn]; exact h1
                    have gN : wj.grownBy Wn (some (w.heap.size + 1)) := by rw [hWn]; exact grown_set _ _ _
                    have CN : Hid (C3 Wn (wr.heap.size + 1) ⟨xf, xl, xe⟩) := (gN.block _ CJ.out.lt (by have := HB3.out; simp; omega)).trans CJ.out
                    have CYN : Hid (C3 Wn wz.heap.size ⟨yf, yl, ye⟩) := (gN.block _ CYJ.out.lt (by have := HB3.out; have := HXz.out; simp; omega)).trans CYJ.out
                    have TN : Hid (Turn (fun g => wr.heap.size + 1 ≤ g ∨ g < w.heap.size + 3) W1 Wn) := TJ.out.step gN (.inl (.inr (by omega)))
                    have HWn : Hid (Wn = wj.setCell ⟨w.heap.size + 1, j, none⟩ (.int .i64 ((B j ||| yf : Nat) : Int))) := hWn
                    clear hWn gN hb CJ PJ TJ CYJ HFo
                    go_wp2_with fail
                    go_region
                    all_goals
                      go_wp2_with fail
                      go_roundw
                      case rel =>
                        rw [← HWn.out]
                        exact ⟨j + 1, by omega, by go_num, CN.out.kept (by first | exact grown_refl _ _ | exact grown_drew (grown_refl _ _) | exact grown_drewN (grown_refl _ _) _), CYN.out.kept (by first | exact grown_refl _ _ | exact grown_drew (grown_refl _ _) | exact grown_drewN (grown_refl _ _) _), PN.out.kept (by first | exact grown_refl _ _ | exact grown_drew (grown_refl _ _) | exact grown_drewN (grown_refl _ _) _), TN.out.grow (by first | exact grown_refl _ _ | exact grown_drew (grown_refl _ _) | exact grown_drewN (grown_refl _ _) _)⟩
                      case measure => simp [intOf]; omega
                  | false =>
                    rw [hb] at hbit HFo
                    simp only [Bool.false_eq_true, if_false] at hbit HFo
                    have PN : Hid (PSt w n ⟨fun x => if x < j + 1 then folF B xl yf x else B x, S.sg, S.at_, S.es⟩ i (some ⟨gE, 0, none⟩) cE wj) := PJ.out.congr (fun y hy => by
                      by_cases e : y = j
                      · subst e; simp [HFo.out]
                      · by_cases e2 : y < j
                        · simp [e2, show y < j + 1 by omega]
                        · simp [e2, show ¬ y < j + 1 by omega]) rfl rfl
                    clear hb HFo
                    go_wp2_with fail
                    go_roundw
                    case rel => exact ⟨j + 1, by omega, by go_num, CJ.out, CYJ.out, PN.out, TJ.out⟩
                    case measure => simp [intOf]; omega
                · have hji : ¬ (j : Int) < (n : Int) := by omega
                  have PD : Hid (PSt w n ⟨folF B xl yf, S.sg, S.at_, S.es⟩ i (some ⟨gE, 0, none⟩) cE wj) := PJ.out.congr (fun y hy => by simp [show y < j by omega]) rfl rfl
                  clear PJ
                  have HXl : wr.heap.size + 1 < wj.heap.size := CJ.out.lt
                  have zf0 := CJ.out.fz 0
                  have zf1 := CJ.out.fz 1
                  have zf2 := CJ.out.fz 2
                  have hne : (Value.slice (some ⟨gE, 0, none⟩) i cE).ownBlock ≠ some (wr.heap.size + 1) := fun e => by have := HNo.out _ e; omega
                  have hB := HB3.out
                  have o1 := orP (s := xf) (t := yf) (by omega) (by omega)
                  have o2 := orP (s := xl) (t := yl) (by omega) (by omega)
                  have HCK : Hid (catK S.es p.kids (t + 1) = ⟨if xe = true then xf ||| yf else xf, if ye = true then xl ||| yl else yl, xe && ye⟩) := HAK.out
                  have fin1 : Hid (∀ Wf, C3 Wf (wr.heap.size + 1) ⟨if xe = true then xf ||| yf else xf, if ye = true then xl ||| yl else yl, xe && ye⟩ → PSt w n ⟨folF B xl yf, S.sg, S.at_, S.es⟩ i (some ⟨gE, 0, none⟩) cE Wf → C3 Wf (wr.heap.size + 1) (catK S.es p.kids (t + 1)) ∧ PSt w n ⟨folK S.bh S.es p.kids (t + 1), S.sg, S.at_, S.es⟩ i (some ⟨gE, 0, none⟩) cE Wf) := fun Wf h1 h2 => ⟨by rw [HCK.out]; exact h1, by rw [HFK.out]; exact h2⟩
                  cases xe with
                  | false =>
                    cases ye with
                    | false =>
                      simp only [if_true, Bool.false_eq_true, if_false, Bool.and_true, Bool.and_false, Bool.false_and] at fin1
                      go_wp2_with fail
                      have HF1 : Hid _ := fin1.out _ ((CJ.out.set2 (yl) rfl).set0 false) ((PD.out.other (by omega) hne _).other (by omega) hne _)
                      go_roundw
                      case rel => exact ⟨t + 1, by omega, by go_num, HF1.out.1, HF1.out.2, ((TJ.out.step (grown_set _ _ _) (.inl (.inl (Nat.le_refl _)))).step (grown_set _ _ _) (.inl (.inl (Nat.le_refl _))))⟩
                      case measure => simp [intOf]; omega
                    | true =>
                      simp only [if_true, Bool.false_eq_true, if_false, Bool.and_true, Bool.and_false, Bool.false_and] at fin1
                      go_wp2_with fail
                      have HF1 : Hid _ := fin1.out _ ((CJ.out.set2 (xl ||| yl) rfl).set0 false) ((PD.out.other (by omega) hne _).other (by omega) hne _)
                      go_roundw
                      case rel => exact ⟨t + 1, by omega, by go_num, HF1.out.1, HF1.out.2, ((TJ.out.step (grown_set _ _ _) (.inl (.inl (Nat.le_refl _)))).step (grown_set _ _ _) (.inl (.inl (Nat.le_refl _))))⟩
                      case measure => simp [intOf]; omega
                  | true =>
                    cases ye with
                    | false =>
                      simp only [if_true, Bool.false_eq_true, if_false, Bool.and_true, Bool.and_false, Bool.false_and] at fin1
                      go_wp2_with fail
                      have HF1 : Hid _ := fin1.out _ (((CJ.out.set1 (xf ||| yf) rfl).set2 (yl) rfl).set0 false) (((PD.out.other (by omega) hne _).other (by omega) hne _).other (by omega) hne _)
                      go_roundw
                      case rel => exact ⟨t + 1, by omega, by go_num, HF1.out.1, HF1.out.2, (((TJ.out.step (grown_set _ _ _) (.inl (.inl (Nat.le_refl _)))).step (grown_set _ _ _) (.inl (.inl (Nat.le_refl _)))).step (grown_set _ _ _) (.inl (.inl (Nat.le_refl _))))⟩
                      case measure => simp [intOf]; omega
                    | true =>
                      simp only [if_true, Bool.false_eq_true, if_false, Bool.and_true, Bool.and_false, Bool.false_and] at fin1
                      go_wp2_with fail
                      have HF1 : Hid _ := fin1.out _ (((CJ.out.set1 (xf ||| yf) rfl).set2 (xl ||| yl) rfl).set0 true) (((PD.out.other (by omega) hne _).other (by omega) hne _).other (by omega) hne _)
                      go_roundw
                      case rel => exact ⟨t + 1, by omega, by go_num, HF1.out.1, HF1.out.2, (((TJ.out.step (grown_set _ _ _) (.inl (.inl (Nat.le_refl _)))).step (grown_set _ _ _) (.inl (.inl (Nat.le_refl _)))).step (grown_set _ _ _) (.inl (.inl (Nat.le_refl _))))⟩
                      case measure => simp [intOf]; omega
            · have htki : ¬ (t : Int) < (kl : Int) := by omega
              have htk2 : t = kl := by omega
              subst htk2
              obtain ⟨z0, z1, z2⟩ := CZ.out.get
              generalize catK S.es p.kids t = rx at *
              obtain ⟨xf, xl, xe⟩ := rx
              simp only at z0 z1 z2
              have hzs : wr.heap.size + 1 < wz.heap.size := CZ.out.lt
              go_wp2_with (at_builtin; refine wpList_append_lies _ rfl _ _ 98 rfl (w.heap.size + 3) 100 i0 (.agg #[.bool false, .int .i64 0, .int .i64 0]) 3 24 Tryd.underlying98 hio hz0 hz1 hz2 rfl (by decide) (.slice aE i cE) i (flatE S.es) rfl (PZ.out.kept (grown_alloc _ _)).es ⟨wz.heap.size, 0, none⟩ 1 1 [.bool (⟨xf, xl, xe⟩ : Rch).empty, .int .i64 ((⟨xf, xl, xe⟩ : Rch).first : Int), .int .i64 ((⟨xf, xl, xe⟩ : Rch).last : Int)] rfl rfl (news3E rfl) (by intro u hu; simp at hu; rcases hu with rfl | rfl | rfl <;> rfl) (by omega) (by unfold maxLen; omega) (by omega) (by have := HB3.out; simp; omega) (wz.heap.size + 1) (by simp) ?_; intro g9 cap9 w9 ho9 hg9 hat9 _)
              have P9 : Hid (PSt w n (runS ps (i + 1)) (i + 1) (some ⟨g9, 0, none⟩) cap9 w9) := by
                show PSt _ _ _ _ _ _ _
                rw [HStp.out, HE.out]; exact (PZ.out).push rfl rfl rfl ho9 hg9
              have HA9 : Hid ((runS ps (i + 1)).at_ = S.at_) := by show _ = _; rw [HStp.out, HE.out]
              clear ho9 hg9 hat9
              go_roundw
              case rel => exact ⟨i + 1, _, cap9, by omega, by go_num, by rw [HA9.out], rfl, P9.out⟩
              case measure => simp [intOf]; omega
      | star hk0 q hk hqi =>
        as_aux_lemma =>
          rw [hk0] at cl0 q0 q1 q2 x0 x1 x2 xf0 xf1 xf2 HWx
          have HE : Hid (stepS p S = ⟨folF S.bh (kidE S.es p.kids 0).last (kidE S.es p.kids 0).first, S.sg, S.at_, S.es ++ [⟨(kidE S.es p.kids 0).first, (kidE S.es p.kids 0).last, true⟩]⟩) := by show _ = _; unfold stepS; rw [hk0]; simp
          clear hk0
          have h0 : 0 < p.kids.length := by rw [hk]; simp
          have hq0 : p.kids.getD 0 0 = (q : Int) := by rw [hk]; rfl
          have hk1 : p.kids.length = 1 := by rw [hk]; rfl
          have hkb := kid_bnd HBi.out p.kids 0
          have HKq : Hid (kidE S.es p.kids 0 = S.es.getD q e0) := by show _ = _; unfold kidE; rw [hq0]; rfl
          rw [HKq.out] at hkb HE
          clear hk
          have HKd : Hid (∃ gk ck, p.kv = .slice (some ⟨gk, 0, none⟩) p.kids.length ck ∧ ∀ t, t < p.kids.length → ∀ W, w.grownBy W none → W.cell? ⟨gk, t, none⟩ = some (.int .i64 (p.kids.getD t 0))) := by
            rcases HKI.out.2 with e | ⟨g, ck, _, hv, hc⟩
            · rw [e] at h0; simp at h0
            · exact ⟨g, ck, hv, fun t ht W hW => hW.cell (hc t ht) (by simp)⟩
          obtain ⟨gk, ck, hkv2, hkc⟩ := HKd.out
          rw [HKV.out] at hkv2
          cases hkv2
          have HKC : Hid (∀ t, t < p.kids.length → ∀ W, w.grownBy W none → W.cell? ⟨gk, t, none⟩ = some (.int .i64 (p.kids.getD t 0))) := hkc
          have HNo : Hid (∀ b, (Value.slice aE i cE).ownBlock = some b → b < wr.heap.size) := fun b hb => (ST.out.es.lt b hb).2
          have BPx : Hid (∀ W', Turn (fun g => wr.heap.size + 1 ≤ g ∨ g < w.heap.size + 3) Wx W' → W'.cell? ⟨wr.heap.size, 2, none⟩ = some (.slice (some ⟨gk, 0, none⟩) p.kids.length kvc)) := fun W' hW' => by have := (BP.out W' hW' HB3.out).2.2; rwa [HKV.out] at this
          clear hkc HKd
          generalize hkl : p.kids.length = kl at *
          have HKL2 : Hid (p.kids.length = kl) := hkl
          clear hkl
          have ck := HKC.out 0 (by omega) Wx PX.out.gr
          rw [hq0] at ck
          obtain ⟨gE, hgE, hgB, hgl, y0, y1, y2⟩ := ends_get PX.out.es (k := q) (by rw [HRi.out]; exact hqi) HRi.out
          have hqi2 : (q : Int) < (i : Int) := by omega
          generalize S.es.getD q e0 = ry at *
          obtain ⟨yf, yl, ye⟩ := ry
          simp only at y0 y1 y2 hkb HE
          have HBb : Hid (∀ j, S.bh j < 2048) := HBi.out.bh
          have hk1i : (0 : Int) < (kl : Int) := by omega
          clear hk1
          obtain ⟨W1, hW1⟩ : ∃ W1, W1 = (wr.alloc (.cells #[.int .i64 5, .int .i64 p.let_, .slice (some ⟨gk, 0, none⟩) kl kvc] 97)).alloc (.cells #[.bool ye, .int .i64 (yf : Int), .int .i64 (yl : Int)] 100) := ⟨_, rfl⟩
          have HW1 : Hid (W1 = (wr.alloc (.cells #[.int .i64 5, .int .i64 p.let_, .slice (some ⟨gk, 0, none⟩) kl kvc] 97)).alloc (.cells #[.bool ye, .int .i64 (yf : Int), .int .i64 (yl : Int)] 100)) := hW1
          have P1 : Hid (PSt w n S i aE cE W1) := ST.out.kept (by rw [hW1]; exact grown_trans (grown_alloc _ _) (grown_alloc _ _))
          have HS1 : Hid (W1.heap.size = wr.heap.size + 2) := by show _ = _; rw [hW1]; simp
          have C1 : Hid (C3 W1 (wr.heap.size + 1) ⟨yf, yl, ye⟩) := by
            have := c3_new (wr.alloc (.cells #[.int .i64 5, .int .i64 p.let_, .slice (some ⟨gk, 0, none⟩) kl kvc] 97)) ⟨yf, yl, ye⟩
            rw [World.size_alloc] at this
            rw [hW1]; exact this
          have B1 : Hid (∀ W', Turn (fun g => wr.heap.size + 1 ≤ g ∨ g < w.heap.size + 3) W1 W' → W'.cell? ⟨wr.heap.size, 2, none⟩ = some (.slice (some ⟨gk, 0, none⟩) kl kvc)) := fun W' hW' => by
            have b0 := heap_alloc_new wr (.cells #[.int .i64 5, .int .i64 p.let_, .slice (some ⟨gk, 0, none⟩) kl kvc] 97)
            have b1 : W1.heap[wr.heap.size]? = some (.cells #[.int .i64 5, .int .i64 p.let_, .slice (some ⟨gk, 0, none⟩) kl kvc] 97 (0, 0)) := by rw [hW1]; exact (Below.heap_alloc _ _ _ (by simp)).trans b0
            have b2 : W'.heap[wr.heap.size]? = _ := (hW'.block _ (by rw [HS1.out]; omega) (by have := HB3.out; omega)).trans b1
            rw [cell_of_row _ _ _ _ _ (0, 0) b2]; rfl
          clear hW1
          rw [HWx.out] at ck y0 y1 y2
          have CJ0 : Hid (C3 W1 (wr.heap.size + 1) ⟨yf, yl, ye⟩) := C1.out
          have PJ0 : Hid (PSt w n ⟨S.bh, S.sg, S.at_, S.es⟩ i aE cE W1) := P1.out
          have TJ0 : Hid (Turn (fun g => wr.heap.size + 1 ≤ g ∨ g < w.heap.size + 3) W1 W1) := Turn.refl _ _
          subst hgE
          go_wp2_with fail
          rw [← HW1.out]
          clear q0 q1 q2 x0 x1 x2 xf0 xf1 xf2 cl0 cl1 cl2 HWx HW1 CX PX GX BP BPx HSx ck y0 y1 y2
          go_loopw [19] (fun v wj => ∃ j : Nat, j ≤ n ∧ v = .int .i64 j ∧ C3 wj (wr.heap.size + 1) ⟨yf, yl, ye⟩ ∧ PSt w n ⟨fun x => if x < j then folF S.bh yl yf x else S.bh x, S.sg, S.at_, S.es⟩ i (some ⟨gE, 0, none⟩) cE wj ∧ Turn (fun g => wr.heap.size + 1 ≤ g ∨ g < w.heap.size + 3) W1 wj) (fun v _ => n - (intOf v).toNat)
          case atStart => exact ⟨0, Nat.zero_le _, rfl, CJ0.out, PJ0.out.congr (fun j hj => by simp) rfl rfl, TJ0.out⟩
          case round =>
            rename World => wj
            obtain ⟨j, hjn, rfl, hcx, hpj, hT⟩ := hrel
            have CJ : Hid (C3 wj (wr.heap.size + 1) ⟨yf, yl, ye⟩) := hcx
            skip
            have PJ : Hid (PSt w n ⟨fun x => if x < j then folF S.bh yl yf x else S.bh x, S.sg, S.at_, S.es⟩ i (some ⟨gE, 0, none⟩) cE wj) := hpj
            have TJ : Hid (Turn (fun g => wr.heap.size + 1 ≤ g ∨ g < w.heap.size + 3) W1 wj) := hT
            clear hcx hpj hT
            obtain ⟨u0, u1, u2⟩ := CJ.out.get
            skip
            by_cases hjl : j < n
            · have hji : (j : Int) < (n : Int) := by omega
              have hji0 : ¬ (j : Int) < 0 := by omega
              have c7 : wj.cell? ⟨w.heap.size + 1, j, none⟩ = some (.int .i64 (S.bh j : Int)) := by have := PJ.out.bh.cell hjl; simpa using this
              have f7 := PJ.out.bh.frozen j
              have hbit := shr_bitP (s := yl) (x := j) (by omega)
              have hbj := HBb.out j
              have o7 := orP (s := S.bh j) (t := yf) (by omega) (by omega)
              have HFo : Hid (folF S.bh yl yf j = if yl.testBit j = true then S.bh j ||| yf else S.bh j) := rfl
              cases hb : yl.testBit j with
              | true =>
                rw [hb] at hbit HFo
                simp only [if_true] at hbit HFo
                obtain ⟨Wn, hWn⟩ : ∃ Wn, Wn = wj.setCell ⟨w.heap.size + 1, j, none⟩ (.int .i64 ((S.bh j ||| yf : Nat) : Int)) := ⟨_, rfl⟩
                have PN : Hid (PSt w n ⟨fun x => if x < j + 1 then folF S.bh yl yf x else S.bh x, S.sg, S.at_, S.es⟩ i (some ⟨gE, 0, none⟩) cE Wn) := by
                  have h1 := PJ.out.setBh (j := j) hjl (f := fun x => if x < j + 1 then folF S.bh yl yf x else S.bh x) (x := ((S.bh j ||| yf : Nat) : Int)) (by simp [HFo.out]) (fun y hy => by
                    by_cases e : y < j
                    · simp [e, show y < j + 1 by omega]
                    · simp [e, show ¬ y < j + 1 by omega])
                  show PSt _ _ _ _ _ _ _
                  rw [hWn]; exact h1
                have gN : wj.grownBy Wn (some (w.heap.size + 1)) := by rw [hWn]; exact grown_set _ _ _
                have CN : Hid (C3 Wn (wr.heap.size + 1) ⟨yf, yl, ye⟩) := (gN.block _ CJ.out.lt (by have := HB3.out; simp; omega)).trans CJ.out
                skip
                have TN : Hid (Turn (fun g => wr.heap.size + 1 ≤ g ∨ g < w.heap.size + 3) W1 Wn) := TJ.out.step gN (.inl (.inr (by omega)))
                have HWn : Hid (Wn = wj.setCell ⟨w.heap.size + 1, j, none⟩ (.int .i64 ((S.bh j ||| yf : Nat) : Int))) := hWn
                clear hWn gN hb CJ PJ TJ HFo
                go_wp2_with fail
                go_region
                all_goals
                  go_wp2_with fail
                  go_roundw
                  case rel =>
                    rw [← HWn.out]
                    exact ⟨j + 1, by omega, by go_num, CN.out.kept (by first | exact grown_refl _ _ | exact grown_drew (grown_refl _ _) | exact grown_drewN (grown_refl _ _) _), PN.out.kept (by first | exact grown_refl _ _ | exact grown_drew (grown_refl _ _) | exact grown_drewN (grown_refl _ _) _), TN.out.grow (by first | exact grown_refl _ _ | exact grown_drew (grown_refl _ _) | exact grown_drewN (grown_refl _ _) _)⟩
                  case measure => simp [intOf]; omega
              | false =>
                rw [hb] at hbit HFo
                simp only [Bool.false_eq_true, if_false] at hbit HFo
                have PN : Hid (PSt w n ⟨fun x => if x < j + 1 then folF S.bh yl yf x else S.bh x, S.sg, S.at_, S.es⟩ i (some ⟨gE, 0, none⟩) cE wj) := PJ.out.congr (fun y hy => by
                  by_cases e : y = j
                  · subst e; simp [HFo.out]
                  · by_cases e2 : y < j
                    · simp [e2, show y < j + 1 by omega]
                    · simp [e2, show ¬ y < j + 1 by omega]) rfl rfl
                clear hb HFo
                go_wp2_with fail
                go_roundw
                case rel => exact ⟨j + 1, by omega, by go_num, CJ.out, PN.out, TJ.out⟩
                case measure => simp [intOf]; omega
            · have hji : ¬ (j : Int) < (n : Int) := by omega
              have PD : Hid (PSt w n ⟨folF S.bh yl yf, S.sg, S.at_, S.es⟩ i (some ⟨gE, 0, none⟩) cE wj) := PJ.out.congr (fun y hy => by simp [show y < j by omega]) rfl rfl
              clear PJ
              have HXl : wr.heap.size + 1 < wj.heap.size := CJ.out.lt
              have zf0 := CJ.out.fz 0
              have hne : (Value.slice (some ⟨gE, 0, none⟩) i cE).ownBlock ≠ some (wr.heap.size + 1) := fun e => by have := HNo.out _ e; omega
              have hB := HB3.out
              obtain ⟨Wf, hWf⟩ : ∃ Wf, Wf = wj.setCell ⟨wr.heap.size + 1, 0, none⟩ (.bool true) := ⟨_, rfl⟩
              have CF := CJ.out.set0 true
              have PF : Hid (PSt w n ⟨folF S.bh yl yf, S.sg, S.at_, S.es⟩ i (some ⟨gE, 0, none⟩) cE Wf) := by
                show PSt _ _ _ _ _ _ _
                rw [hWf]; exact PD.out.other (by omega) hne _
              have HWf : Hid (Wf = wj.setCell ⟨wr.heap.size + 1, 0, none⟩ (.bool true)) := hWf
              have HSf : Hid (Wf.heap.size = wj.heap.size) := by show _ = _; rw [hWf]; simp
              obtain ⟨z0, z1, z2⟩ := CF.get
              simp only at z0 z1 z2
              clear hWf CF
              go_wp2_with (at_builtin; rw [← HWf.out]; refine wpList_append_lies _ rfl _ _ 98 rfl (w.heap.size + 3) 100 i0 (.agg #[.bool false, .int .i64 0, .int .i64 0]) 3 24 Tryd.underlying98 hio hz0 hz1 hz2 rfl (by decide) (.slice (some ⟨gE, 0, none⟩) i cE) i (flatE S.es) rfl (PF.out.kept (grown_alloc _ _)).es ⟨wj.heap.size, 0, none⟩ 1 1 [.bool (⟨yf, yl, true⟩ : Rch).empty, .int .i64 ((⟨yf, yl, true⟩ : Rch).first : Int), .int .i64 ((⟨yf, yl, true⟩ : Rch).last : Int)] rfl rfl (news3E HSf.out) (by intro u hu; simp at hu; rcases hu with rfl | rfl | rfl <;> rfl) (by omega) (by unfold maxLen; omega) (by omega) (by have := HSf.out; simp; omega) (Wf.heap.size + 1) (by simp) ?_; intro g9 cap9 w9 ho9 hg9 hat9 _)
              have P9 : Hid (PSt w n (runS ps (i + 1)) (i + 1) (some ⟨g9, 0, none⟩) cap9 w9) := by
                show PSt _ _ _ _ _ _ _
                rw [HStp.out, HE.out]; exact (PF.out).push rfl rfl rfl ho9 hg9
              have HA9 : Hid ((runS ps (i + 1)).at_ = S.at_) := by show _ = _; rw [HStp.out, HE.out]
              clear ho9 hg9 hat9
              go_roundw
              case rel => exact ⟨i + 1, _, cap9, by omega, by go_num, by rw [HA9.out], rfl, P9.out⟩
              case measure => simp [intOf]; omega
    · as_aux_lemma =>
        have hii : ¬ (i : Int) < (ps.length : Int) := by omega
        have hil : i = ps.length := by omega
        have HSl : Hid (S = runS ps ps.length) := HLast.out hil
        subst hil
        obtain ⟨j0, hjo, hy0, hy1, hy2⟩ := info_parts Tryd.infoST
        obtain ⟨k0, hko, hx0, hx1, hx2⟩ := info_parts Tryd.info3i
        obtain ⟨gE, hgE, _, _, y0, y1, y2⟩ := ends_get ST.out.es (k := k) (by rw [HRi.out]; have := HKL.out; omega) HRi.out
        have ek : ((ps.length : Int) - 1) = (k : Int) := by have := HKL.out; omega
        have hkl1 : (k : Int) < (ps.length : Int) := by have := HKL.out; omega
        have hrb : (S.es.getD k e0).first < 2048 ∧ (S.es.getD k e0).last < 2048 := ⟨HBi.out.fs k, HBi.out.ls k⟩
        have HR : Hid (S.es.getD (S.es.length - 1) e0 = S.es.getD k e0) := by show _ = _; rw [HRi.out]; congr 1; have := HKL.out; omega
        generalize S.es.getD k e0 = r at *
        obtain ⟨rf, rl, re⟩ := r
        simp only at y0 y1 y2 hrb
        obtain ⟨W0, hW0⟩ : ∃ W0, W0 = ((wr.alloc (.cells #[.bool re, .int .i64 (rf : Int), .int .i64 (rl : Int)] 100)).alloc (.cells #[.int .i64 (n : Int)] 3)).alloc (.cells #[.int .i64 letters, .int .i64 ((n : Int) + 1), .slice (some ⟨wr.heap.size + 1, 0, none⟩) 1 1, .slice none 0 0, .slice none 0 0] 65) := ⟨_, rfl⟩
        have HW0 : Hid (W0 = ((wr.alloc (.cells #[.bool re, .int .i64 (rf : Int), .int .i64 (rl : Int)] 100)).alloc (.cells #[.int .i64 (n : Int)] 3)).alloc (.cells #[.int .i64 letters, .int .i64 ((n : Int) + 1), .slice (some ⟨wr.heap.size + 1, 0, none⟩) 1 1, .slice none 0 0, .slice none 0 0] 65)) := hW0
        have E0 : Hid (PEn w wr letters n S ⟨rf, rl, re⟩ none 0 none 0 [] [] W0) := by
          have a0 := c3_new wr ⟨rf, rl, re⟩
          have a1 := heap_alloc_new (wr.alloc (.cells #[.bool re, .int .i64 (rf : Int), .int .i64 (rl : Int)] 100)) (.cells #[.int .i64 (n : Int)] 3)
          have a2 := heap_alloc_new ((wr.alloc (.cells #[.bool re, .int .i64 (rf : Int), .int .i64 (rl : Int)] 100)).alloc (.cells #[.int .i64 (n : Int)] 3)) (.cells #[.int .i64 letters, .int .i64 ((n : Int) + 1), .slice (some ⟨wr.heap.size + 1, 0, none⟩) 1 1, .slice none 0 0, .slice none 0 0] 65)
          simp only [World.size_alloc] at a1 a2
          rw [← hW0] at a2
          have g2 : ((wr.alloc (.cells #[.bool re, .int .i64 (rf : Int), .int .i64 (rl : Int)] 100)).alloc (.cells #[.int .i64 (n : Int)] 3)).grownBy W0 none := by rw [hW0]; exact grown_alloc _ _
          have g1 : (wr.alloc (.cells #[.bool re, .int .i64 (rf : Int), .int .i64 (rl : Int)] 100)).grownBy W0 none := grown_trans (grown_alloc _ _) g2
          have g0 : wr.grownBy W0 none := grown_trans (grown_alloc _ _) g1
          have hk := ST.out.kept g0
          exact ⟨hk.bh, hk.sg, hk.gr, hk.rb, a0.kept g1, (g2.block _ (Array.getElem?_eq_some_iff.1 a1).1 (by simp)).trans a1, a2, World.ownsRow_nil _ _ _ _, World.ownsRow_nil _ _ _ _, fun g hg => by simp [Value.ownBlock] at hg, by have := ST.out.sg.lt; omega⟩
        clear hW0
        subst hgE
        go_wp2_with fail
        rw [← HW0.out]
        clear HW0 y0 y1 y2
        go_loopw [22] (fun v wz => ∃ (j : Nat) (aT : Option Addr) (cT : Nat) (aF : Option Addr) (cF : Nat), j ≤ n + 1 ∧ v = .int .i64 j ∧ PEn w wr letters n S ⟨rf, rl, re⟩ aT cT aF cF (stpP n S ⟨rf, rl, re⟩ j) (finP n ⟨rf, rl, re⟩ j) wz) (fun v _ => n + 1 - (intOf v).toNat)
        case atStart => exact ⟨0, none, 0, none, 0, Nat.zero_le _, rfl, E0.out⟩
        case round =>
          clear E0
          rename World => wz
          obtain ⟨j, aT, cT, aF, cF, hj, rfl, hen⟩ := hrel
          have EN : Hid (PEn w wr letters n S ⟨rf, rl, re⟩ aT cT aF cF (stpP n S ⟨rf, rl, re⟩ j) (finP n ⟨rf, rl, re⟩ j) wz) := hen
          clear hen
          obtain ⟨w0, w1, w2⟩ := EN.out.wb.get
          simp only at w0 w1 w2
          by_cases hjle : j ≤ n
          · have hjlei : (j : Int) ≤ (n : Int) := by omega
            by_cases hjn : j < n
            · have hjni : (j : Int) < (n : Int) := by omega
              have hjne : ((j : Int) == (n : Int)) = false := by simp; omega
              have hj0 : ¬ (j : Int) < 0 := by omega
              have HFr : Hid (frP n S.bh rf j = (S.bh j)) := by show _ = _; unfold frP; rw [if_pos hjn]
              have hfr : (S.bh j) < 2048 := HBi.out.bh j
              have c7 : wz.cell? ⟨w.heap.size + 1, j, none⟩ = some (.int .i64 (S.bh j : Int)) := EN.out.bh.cell hjn
              go_wp2_with fail
              clear w0 w1 w2 c7
              go_loopw [24] (fun v wk => ∃ (q : Nat) (aT : Option Addr) (cT : Nat), q ≤ n ∧ v = .int .i64 q ∧ PEn w wr letters n S ⟨rf, rl, re⟩ aT cT aF cF (stpP n S ⟨rf, rl, re⟩ j ++ rowSt (S.bh j) S.sg j q) (finP n ⟨rf, rl, re⟩ j) wk) (fun v _ => n - (intOf v).toNat)
              case atStart => exact ⟨0, aT, cT, Nat.zero_le _, rfl, by simpa [rowSt] using EN.out⟩
              case round =>
                clear EN
                rename World => wk
                obtain ⟨q, aT, cT, hq, rfl, hen⟩ := hrel
                have EK : Hid (PEn w wr letters n S ⟨rf, rl, re⟩ aT cT aF cF (stpP n S ⟨rf, rl, re⟩ j ++ rowSt (S.bh j) S.sg j q) (finP n ⟨rf, rl, re⟩ j) wk) := hen
                clear hen
                by_cases hqn : q < n
                · have hqi : (q : Int) < (n : Int) := by omega
                  have hqi0 : ¬ (q : Int) < 0 := by omega
                  have hbit := shr_bitP (s := (S.bh j)) (x := q) (by omega)
                  have HRw : Hid (rowSt (S.bh j) S.sg j (q + 1) = rowSt (S.bh j) S.sg j q ++ (if (S.bh j).testBit q = true then [((j : Int), S.sg q, (q : Int))] else [])) := rfl
                  have c8 : wk.cell? ⟨w.heap.size + 1 + 1, q, none⟩ = some (.int .i64 (S.sg q)) := EK.out.sg.cell hqn
                  obtain ⟨b3, b4, bf3, bf4⟩ : wk.cell? ⟨wr.heap.size + 1 + 1, 3, none⟩ = some (.slice aT (stpP n S ⟨rf, rl, re⟩ j ++ rowSt (S.bh j) S.sg j q).length cT) ∧ wk.cell? ⟨wr.heap.size + 1 + 1, 4, none⟩ = some (.slice aF (finP n ⟨rf, rl, re⟩ j).length cF) ∧ wk.frozen? ⟨wr.heap.size + 1 + 1, 3, none⟩ = false ∧ wk.frozen? ⟨wr.heap.size + 1 + 1, 4, none⟩ = false := EK.out.box
                  have htl : (stpP n S ⟨rf, rl, re⟩ j ++ rowSt (S.bh j) S.sg j q).length ≤ 200 := by
                    have h1 := stpP_len n S ⟨rf, rl, re⟩ j
                    have h2 := rowSt_len (S.bh j) S.sg j q
                    have h3 : j * n ≤ 10 * 10 := Nat.mul_le_mul (by omega) hn10
                    rw [List.length_append]; omega
                  generalize S.sg q = sq at *
                  cases hb : (S.bh j).testBit q with
                  | true =>
                    rw [hb] at hbit HRw
                    simp only [if_true] at hbit HRw
                    have HT' : Hid (stpP n S ⟨rf, rl, re⟩ j ++ rowSt (S.bh j) S.sg j (q + 1) = (stpP n S ⟨rf, rl, re⟩ j ++ rowSt (S.bh j) S.sg j q) ++ [((j : Int), sq, (q : Int))]) := by show _ = _; rw [HRw.out, List.append_assoc]
                    generalize stpP n S ⟨rf, rl, re⟩ j ++ rowSt (S.bh j) S.sg j q = TT at *
                    obtain ⟨Wd, hWd⟩ : ∃ Wd, (wk.alloc (.cells #[.int .i64 (j : Int), .int .i64 sq, .int .i64 (q : Int)] 102)).drew = Wd := ⟨_, rfl⟩
                    have gd : wk.grownBy Wd none := hWd ▸ grown_drew (grown_alloc _ _)
                    have ED : Hid (PEn w wr letters n S ⟨rf, rl, re⟩ aT cT aF cF TT (finP n ⟨rf, rl, re⟩ j) Wd) := EK.out.kept gd
                    have HWd : Hid ((wk.alloc (.cells #[.int .i64 (j : Int), .int .i64 sq, .int .i64 (q : Int)] 102)).drew = Wd) := hWd
                    have HSd : Hid (Wd.heap.size = wk.heap.size + 1) := by show _ = _; rw [← hWd]; simp
                    have HNd : Hid (Wd.heap[wk.heap.size]? = some (.cells #[.int .i64 (j : Int), .int .i64 sq, .int .i64 (q : Int)] 102 (0, 0))) := by show _ = _; rw [← hWd]; exact heap_alloc_new wk _
                    have HBk : Hid (wr.heap.size + 3 ≤ wk.heap.size) := by have := (Array.getElem?_eq_some_iff.1 EK.out.ob).1; show _ ≤ _; omega
                    have b3' := fun ob => (grown_alloc wk ob).cell b3 (by simp)
                    have bf3' : ∀ ob, (wk.alloc ob).frozen? ⟨wr.heap.size + 1 + 1, 3, none⟩ = false := fun ob => ((EK.out.kept (grown_alloc wk ob)).box).2.2.1
                    have c8' := fun ob => (grown_alloc wk ob).cell c8 (by simp)
                    clear hWd gd hb EK HRw
                    obtain ⟨g9, cap9, w9, hrun, ho9, hg9, hat9, _⟩ := run_append_lies (P := Tryd.prog) Wd 63 63 (wr.heap.size + 3) 102 j0 (.agg #[.int .i64 0, .int .i64 0, .int .i64 0]) 3 24 Tryd.underlying63 hjo hy0 hy1 hy2 rfl (by decide) (.slice aT TT.length cT) TT.length (flatS TT) ED.out.ts ⟨wk.heap.size, 0, none⟩ 1 1 [.int .i64 (j : Int), .int .i64 sq, .int .i64 (q : Int)] rfl (fun jj u hu => World.news_of_block HNd.out jj u (by simpa using hu)) (by intro u hu; simp at hu; rcases hu with rfl | rfl | rfl <;> rfl) (by omega) (by unfold maxLen; omega) (by omega) (by have := HSd.out; have := HBk.out; omega) (wk.heap.size + 1) HSd.out
                    have hlt9 : ∀ b, (Value.slice aT TT.length cT).ownBlock = some b → wr.heap.size + 3 ≤ b := fun b hb => (ED.out.ts.lt b hb).1
                    have ob9 := heap_old ED.out.ob hg9 (fun b e => by have := hlt9 b e; omega)
                    have k3 : w9.cell? ⟨wr.heap.size + 1 + 1, 3, none⟩ = some (.slice aT TT.length cT) := by rw [cell_of_row _ _ _ _ _ (0, 0) ob9]; rfl
                    have e3 : w9.frozen? ⟨wr.heap.size + 1 + 1, 3, none⟩ = false := frozen_of_row _ _ _ _ _ ob9
                    have EP : Hid (PEn w wr letters n S ⟨rf, rl, re⟩ (some ⟨g9, 0, none⟩) cap9 aF cF (TT ++ [((j : Int), sq, (q : Int))]) (finP n ⟨rf, rl, re⟩ j) (w9.setCell ⟨wr.heap.size + 1 + 1, 3, none⟩ (.slice (some ⟨g9, 0, none⟩) (TT.length + 1) cap9))) := ED.out.pushT (x := ((j : Int), sq, (q : Int))) ho9 hg9 hat9 (Nat.le_of_eq HSd.out)
                    rw [← HWd.out, appP_fold] at hrun
                    clear ho9 hg9 hat9 hlt9 ob9 ED HWd HNd HBk
                    go_wp2_with fail
                    go_region
                    all_goals
                      go_wp2_with fail
                      go_roundw
                      case rel =>
                        have EP2 := EP.out
                        rw [← HT'.out] at EP2
                        exact ⟨q + 1, some ⟨g9, 0, none⟩, cap9, by omega, by go_num, EP2.kept (by first | exact grown_refl _ _ | exact grown_drew (grown_refl _ _) | exact grown_drewN (grown_refl _ _) _)⟩
                      case measure => simp [intOf]; omega
                  | false =>
                    rw [hb] at hbit HRw
                    simp only [Bool.false_eq_true, if_false, List.append_nil] at hbit HRw
                    clear hb
                    go_wp2_with fail
                    go_roundw
                    case rel => exact ⟨q + 1, aT, cT, by omega, by go_num, by rw [HRw.out]; exact EK.out⟩
                    case measure => simp [intOf]; omega
                · have hqi : ¬ (q : Int) < (n : Int) := by omega
                  have hqn2 : q = n := by omega
                  subst hqn2
                  have HT1 : Hid (stpP q S ⟨rf, rl, re⟩ (j + 1) = stpP q S ⟨rf, rl, re⟩ j ++ rowSt (S.bh j) S.sg j q) := by show stpP q S ⟨rf, rl, re⟩ j ++ rowSt (frP q S.bh rf j) S.sg j q = _; rw [HFr.out]
                  have EJ : Hid (PEn w wr letters q S ⟨rf, rl, re⟩ aT cT aF cF (stpP q S ⟨rf, rl, re⟩ (j + 1)) (finP q ⟨rf, rl, re⟩ j) wk) := by show PEn _ _ _ _ _ _ _ _ _ _ _ _ _; rw [HT1.out]; exact EK.out
                  have HF1 : Hid (finP q ⟨rf, rl, re⟩ (j + 1) = finP q ⟨rf, rl, re⟩ j ++ (if rl.testBit j = true then [(j : Int)] else [])) := by show finP q ⟨rf, rl, re⟩ j ++ (if finB q ⟨rf, rl, re⟩ j = true then _ else _) = _; unfold finB; rw [if_pos hjn]
                  obtain ⟨w0, w1, w2⟩ := EJ.out.wb.get
                  simp only at w0 w1 w2
                  obtain ⟨b3, b4, bf3, bf4⟩ := EJ.out.box
                  have hfl := finP_len q ⟨rf, rl, re⟩ j
                  have hwk : wr.heap.size + 2 < wk.heap.size := (Array.getElem?_eq_some_iff.1 EJ.out.ob).1
                  have hbit := shr_bitP (s := rl) (x := j) (by omega)
                  clear EK HT1
                  obtain ⟨TT, hTT⟩ : ∃ TT, stpP q S ⟨rf, rl, re⟩ (j + 1) = TT := ⟨_, rfl⟩
                  have HTT : Hid (stpP q S ⟨rf, rl, re⟩ (j + 1) = TT) := hTT
                  rw [hTT] at EJ b3
                  clear hTT
                  skip
                  generalize finP q ⟨rf, rl, re⟩ j = FF at *
                  cases hb : rl.testBit j with
                  | true =>
                    rw [hb] at HF1 hbit
                    simp only [if_true] at HF1 hbit
                    have OF : Hid ((wk.alloc (.cells #[.int .i64 (j : Int)] 3)).ownsRow (wr.heap.size + 3) 3 1 (.slice aF FF.length cF) FF.length (vals FF)) := (EJ.out.kept (grown_alloc _ _)).fs
                    skip
                    clear hb
                    go_wp2_with (at_builtin; refine wpList_append_lies _ rfl _ _ 22 rfl (wr.heap.size + 3) 3 k0 (.int .i64 0) 1 8 Tryd.underlying22 hko hx0 hx1 hx2 rfl (by decide) (.slice aF FF.length cF) FF.length (vals FF) rfl OF.out ⟨wk.heap.size, 0, none⟩ 1 1 [.int .i64 (j : Int)] rfl rfl (cell_one_new wk _ _) (by intro u hu; simp at hu; subst hu; rfl) (by omega) (by unfold maxLen; omega) (by omega) (by simp; omega) (wk.heap.size + 1) (by simp) ?_; intro g9 cap9 w9 ho9 hg9 hat9 _; have hlt9 : ∀ b, (Value.slice aF FF.length cF).ownBlock = some b → wr.heap.size + 3 ≤ b := (fun b hb => (EJ.out.fs.lt b hb).1); have ob9 := heap_old (EJ.out.kept (grown_alloc wk (.cells #[.int .i64 (j : Int)] 3))).ob hg9 (fun b e => by have := hlt9 b e; omega); have k4 : w9.cell? ⟨wr.heap.size + 2, 4, none⟩ = some (.slice aF FF.length cF) := (by rw [cell_of_row _ _ _ _ _ (0, 0) ob9]; rfl); have e4 : w9.frozen? ⟨wr.heap.size + 2, 4, none⟩ = false := frozen_of_row _ _ _ _ _ ob9; have EP : Hid (PEn w wr letters q S ⟨rf, rl, re⟩ aT cT (some ⟨g9, 0, none⟩) cap9 TT (FF ++ [(j : Int)]) (w9.setCell ⟨wr.heap.size + 1 + 1, 4, none⟩ (.slice (some ⟨g9, 0, none⟩) (FF.length + 1) cap9))) := (EJ.out.kept (grown_alloc wk (.cells #[.int .i64 (j : Int)] 3))).pushF (x := (j : Int)) ho9 hg9 hat9 (by simp))
                    clear ho9 hg9 hat9 hlt9 ob9
                    go_roundw
                    case rel =>
                      have EP2 := EP.out
                      rw [← HF1.out, ← HTT.out] at EP2
                      first | exact ⟨j + 1, aT, cT, some ⟨g9, 0, none⟩, cap9, by omega, by go_num, EP2⟩ | exact ⟨_, rfl, j + 1, by omega, by go_num, aT, cT, some ⟨g9, 0, none⟩, cap9, EP2⟩ | exact ⟨_, ⟨j + 1, by omega, by go_num, aT, cT, some ⟨g9, 0, none⟩, cap9, EP2⟩, rfl, HB.out⟩
                    case measure => simp [intOf]; omega
                  | false =>
                    rw [hb] at HF1 hbit
                    simp only [Bool.false_eq_true, if_false, List.append_nil] at HF1 hbit
                    skip
                    clear hb
                    go_wp2_with fail
                    go_roundw
                    case rel =>
                      have EJ2 := EJ.out
                      rw [← HF1.out, ← HTT.out] at EJ2
                      first | exact ⟨j + 1, aT, cT, aF, cF, by omega, by go_num, EJ2⟩ | exact ⟨_, rfl, j + 1, by omega, by go_num, aT, cT, aF, cF, EJ2⟩ | exact ⟨_, ⟨j + 1, by omega, by go_num, aT, cT, aF, cF, EJ2⟩, rfl, HB.out⟩
                    case measure => simp [intOf]; omega
            · have hjni : ¬ (j : Int) < (n : Int) := by omega
              have hjeq : ((j : Int) == (n : Int)) = true := by simp; omega
              have HFr : Hid (frP n S.bh rf j = rf) := by show _ = _; unfold frP; rw [if_neg hjn]
              have hfr : rf < 2048 := hrb.1
              skip
              go_wp2_with fail
              clear w0 w1 w2
              go_loopw [24] (fun v wk => ∃ (q : Nat) (aT : Option Addr) (cT : Nat), q ≤ n ∧ v = .int .i64 q ∧ PEn w wr letters n S ⟨rf, rl, re⟩ aT cT aF cF (stpP n S ⟨rf, rl, re⟩ j ++ rowSt rf S.sg j q) (finP n ⟨rf, rl, re⟩ j) wk) (fun v _ => n - (intOf v).toNat)
              case atStart => exact ⟨0, aT, cT, Nat.zero_le _, rfl, by simpa [rowSt] using EN.out⟩
              case round =>
                clear EN
                rename World => wk
                obtain ⟨q, aT, cT, hq, rfl, hen⟩ := hrel
                have EK : Hid (PEn w wr letters n S ⟨rf, rl, re⟩ aT cT aF cF (stpP n S ⟨rf, rl, re⟩ j ++ rowSt rf S.sg j q) (finP n ⟨rf, rl, re⟩ j) wk) := hen
                clear hen
                by_cases hqn : q < n
                · have hqi : (q : Int) < (n : Int) := by omega
                  have hqi0 : ¬ (q : Int) < 0 := by omega
                  have hbit := shr_bitP (s := rf) (x := q) (by omega)
                  have HRw : Hid (rowSt rf S.sg j (q + 1) = rowSt rf S.sg j q ++ (if rf.testBit q = true then [((j : Int), S.sg q, (q : Int))] else [])) := rfl
                  have c8 : wk.cell? ⟨w.heap.size + 1 + 1, q, none⟩ = some (.int .i64 (S.sg q)) := EK.out.sg.cell hqn
                  obtain ⟨b3, b4, bf3, bf4⟩ : wk.cell? ⟨wr.heap.size + 1 + 1, 3, none⟩ = some (.slice aT (stpP n S ⟨rf, rl, re⟩ j ++ rowSt rf S.sg j q).length cT) ∧ wk.cell? ⟨wr.heap.size + 1 + 1, 4, none⟩ = some (.slice aF (finP n ⟨rf, rl, re⟩ j).length cF) ∧ wk.frozen? ⟨wr.heap.size + 1 + 1, 3, none⟩ = false ∧ wk.frozen? ⟨wr.heap.size + 1 + 1, 4, none⟩ = false := EK.out.box
                  have htl : (stpP n S ⟨rf, rl, re⟩ j ++ rowSt rf S.sg j q).length ≤ 200 := by
                    have h1 := stpP_len n S ⟨rf, rl, re⟩ j
                    have h2 := rowSt_len rf S.sg j q
                    have h3 : j * n ≤ 10 * 10 := Nat.mul_le_mul (by omega) hn10
                    rw [List.length_append]; omega
                  generalize S.sg q = sq at *
                  cases hb : rf.testBit q with
                  | true =>
                    rw [hb] at hbit HRw
                    simp only [if_true] at hbit HRw
                    have HT' : Hid (stpP n S ⟨rf, rl, re⟩ j ++ rowSt rf S.sg j (q + 1) = (stpP n S ⟨rf, rl, re⟩ j ++ rowSt rf S.sg j q) ++ [((j : Int), sq, (q : Int))]) := by show _ = _; rw [HRw.out, List.append_assoc]
                    generalize stpP n S ⟨rf, rl, re⟩ j ++ rowSt rf S.sg j q = TT at *
                    obtain ⟨Wd, hWd⟩ : ∃ Wd, (wk.alloc (.cells #[.int .i64 (j : Int), .int .i64 sq, .int .i64 (q : Int)] 102)).drew = Wd := ⟨_, rfl⟩
                    have gd : wk.grownBy Wd none := hWd ▸ grown_drew (grown_alloc _ _)
                    have ED : Hid (PEn w wr letters n S ⟨rf, rl, re⟩ aT cT aF cF TT (finP n ⟨rf, rl, re⟩ j) Wd) := EK.out.kept gd
                    have HWd : Hid ((wk.alloc (.cells #[.int .i64 (j : Int), .int .i64 sq, .int .i64 (q : Int)] 102)).drew = Wd) := hWd
                    have HSd : Hid (Wd.heap.size = wk.heap.size + 1) := by show _ = _; rw [← hWd]; simp
                    have HNd : Hid (Wd.heap[wk.heap.size]? = some (.cells #[.int .i64 (j : Int), .int .i64 sq, .int .i64 (q : Int)] 102 (0, 0))) := by show _ = _; rw [← hWd]; exact heap_alloc_new wk _
                    have HBk : Hid (wr.heap.size + 3 ≤ wk.heap.size) := by have := (Array.getElem?_eq_some_iff.1 EK.out.ob).1; show _ ≤ _; omega
                    have b3' := fun ob => (grown_alloc wk ob).cell b3 (by simp)
                    have bf3' : ∀ ob, (wk.alloc ob).frozen? ⟨wr.heap.size + 1 + 1, 3, none⟩ = false := fun ob => ((EK.out.kept (grown_alloc wk ob)).box).2.2.1
                    have c8' := fun ob => (grown_alloc wk ob).cell c8 (by simp)
                    clear hWd gd hb EK HRw
                    obtain ⟨g9, cap9, w9, hrun, ho9, hg9, hat9, _⟩ := run_append_lies (P := Tryd.prog) Wd 63 63 (wr.heap.size + 3) 102 j0 (.agg #[.int .i64 0, .int .i64 0, .int .i64 0]) 3 24 Tryd.underlying63 hjo hy0 hy1 hy2 rfl (by decide) (.slice aT TT.length cT) TT.length (flatS TT) ED.out.ts ⟨wk.heap.size, 0, none⟩ 1 1 [.int .i64 (j : Int), .int .i64 sq, .int .i64 (q : Int)] rfl (fun jj u hu => World.news_of_block HNd.out jj u (by simpa using hu)) (by intro u hu; simp at hu; rcases hu with rfl | rfl | rfl <;> rfl) (by omega) (by unfold maxLen; omega) (by omega) (by have := HSd.out; have := HBk.out; omega) (wk.heap.size + 1) HSd.out
                    have hlt9 : ∀ b, (Value.slice aT TT.length cT).ownBlock = some b → wr.heap.size + 3 ≤ b := fun b hb => (ED.out.ts.lt b hb).1
                    have ob9 := heap_old ED.out.ob hg9 (fun b e => by have := hlt9 b e; omega)
                    have k3 : w9.cell? ⟨wr.heap.size + 1 + 1, 3, none⟩ = some (.slice aT TT.length cT) := by rw [cell_of_row _ _ _ _ _ (0, 0) ob9]; rfl
                    have e3 : w9.frozen? ⟨wr.heap.size + 1 + 1, 3, none⟩ = false := frozen_of_row _ _ _ _ _ ob9
                    have EP : Hid (PEn w wr letters n S ⟨rf, rl, re⟩ (some ⟨g9, 0, none⟩) cap9 aF cF (TT ++ [((j : Int), sq, (q : Int))]) (finP n ⟨rf, rl, re⟩ j) (w9.setCell ⟨wr.heap.size + 1 + 1, 3, none⟩ (.slice (some ⟨g9, 0, none⟩) (TT.length + 1) cap9))) := ED.out.pushT (x := ((j : Int), sq, (q : Int))) ho9 hg9 hat9 (Nat.le_of_eq HSd.out)
                    rw [← HWd.out, appP_fold] at hrun
                    clear ho9 hg9 hat9 hlt9 ob9 ED HWd HNd HBk
                    go_wp2_with fail
                    go_region
                    all_goals
                      go_wp2_with fail
                      go_roundw
                      case rel =>
                        have EP2 := EP.out
                        rw [← HT'.out] at EP2
                        exact ⟨q + 1, some ⟨g9, 0, none⟩, cap9, by omega, by go_num, EP2.kept (by first | exact grown_refl _ _ | exact grown_drew (grown_refl _ _) | exact grown_drewN (grown_refl _ _) _)⟩
                      case measure => simp [intOf]; omega
                  | false =>
                    rw [hb] at hbit HRw
                    simp only [Bool.false_eq_true, if_false, List.append_nil] at hbit HRw
                    clear hb
                    go_wp2_with fail
                    go_roundw
                    case rel => exact ⟨q + 1, aT, cT, by omega, by go_num, by rw [HRw.out]; exact EK.out⟩
                    case measure => simp [intOf]; omega
                · have hqi : ¬ (q : Int) < (n : Int) := by omega
                  have hqn2 : q = n := by omega
                  subst hqn2
                  have HT1 : Hid (stpP q S ⟨rf, rl, re⟩ (j + 1) = stpP q S ⟨rf, rl, re⟩ j ++ rowSt rf S.sg j q) := by show stpP q S ⟨rf, rl, re⟩ j ++ rowSt (frP q S.bh rf j) S.sg j q = _; rw [HFr.out]
                  have EJ : Hid (PEn w wr letters q S ⟨rf, rl, re⟩ aT cT aF cF (stpP q S ⟨rf, rl, re⟩ (j + 1)) (finP q ⟨rf, rl, re⟩ j) wk) := by show PEn _ _ _ _ _ _ _ _ _ _ _ _ _; rw [HT1.out]; exact EK.out
                  have HF1 : Hid (finP q ⟨rf, rl, re⟩ (j + 1) = finP q ⟨rf, rl, re⟩ j ++ (if re = true then [(j : Int)] else [])) := by show finP q ⟨rf, rl, re⟩ j ++ (if finB q ⟨rf, rl, re⟩ j = true then _ else _) = _; unfold finB; rw [if_neg hjn]
                  obtain ⟨w0, w1, w2⟩ := EJ.out.wb.get
                  simp only at w0 w1 w2
                  obtain ⟨b3, b4, bf3, bf4⟩ := EJ.out.box
                  have hfl := finP_len q ⟨rf, rl, re⟩ j
                  have hwk : wr.heap.size + 2 < wk.heap.size := (Array.getElem?_eq_some_iff.1 EJ.out.ob).1
                  skip
                  clear EK HT1
                  obtain ⟨TT, hTT⟩ : ∃ TT, stpP q S ⟨rf, rl, re⟩ (j + 1) = TT := ⟨_, rfl⟩
                  have HTT : Hid (stpP q S ⟨rf, rl, re⟩ (j + 1) = TT) := hTT
                  rw [hTT] at EJ b3
                  clear hTT
                  obtain ⟨F1, hF1⟩ : ∃ F1, finP q ⟨rf, rl, re⟩ (j + 1) = F1 := ⟨_, rfl⟩; have HFF : Hid (finP q ⟨rf, rl, re⟩ (j + 1) = F1) := hF1; rw [hF1] at HF1; clear hF1
                  generalize finP q ⟨rf, rl, re⟩ j = FF at *
                  cases hb : re with
                  | true =>
                    rw [hb] at HF1 w0
                    simp only [if_true] at HF1
                    have OF : Hid ((wk.alloc (.cells #[.int .i64 (j : Int)] 3)).ownsRow (wr.heap.size + 3) 3 1 (.slice aF FF.length cF) FF.length (vals FF)) := (EJ.out.kept (grown_alloc _ _)).fs
                    have HB : Hid (re = true) := hb
                    clear hb
                    go_wp2_with (at_builtin; refine wpList_append_lies _ rfl _ _ 22 rfl (wr.heap.size + 3) 3 k0 (.int .i64 0) 1 8 Tryd.underlying22 hko hx0 hx1 hx2 rfl (by decide) (.slice aF FF.length cF) FF.length (vals FF) rfl OF.out ⟨wk.heap.size, 0, none⟩ 1 1 [.int .i64 (j : Int)] rfl rfl (cell_one_new wk _ _) (by intro u hu; simp at hu; subst hu; rfl) (by omega) (by unfold maxLen; omega) (by omega) (by simp; omega) (wk.heap.size + 1) (by simp) ?_; intro g9 cap9 w9 ho9 hg9 hat9 _; have hlt9 : ∀ b, (Value.slice aF FF.length cF).ownBlock = some b → wr.heap.size + 3 ≤ b := (fun b hb => (EJ.out.fs.lt b hb).1); have ob9 := heap_old (EJ.out.kept (grown_alloc wk (.cells #[.int .i64 (j : Int)] 3))).ob hg9 (fun b e => by have := hlt9 b e; omega); have k4 : w9.cell? ⟨wr.heap.size + 2, 4, none⟩ = some (.slice aF FF.length cF) := (by rw [cell_of_row _ _ _ _ _ (0, 0) ob9]; rfl); have e4 : w9.frozen? ⟨wr.heap.size + 2, 4, none⟩ = false := frozen_of_row _ _ _ _ _ ob9; have EP : Hid (PEn w wr letters q S ⟨rf, rl, re⟩ aT cT (some ⟨g9, 0, none⟩) cap9 TT (FF ++ [(j : Int)]) (w9.setCell ⟨wr.heap.size + 1 + 1, 4, none⟩ (.slice (some ⟨g9, 0, none⟩) (FF.length + 1) cap9))) := (EJ.out.kept (grown_alloc wk (.cells #[.int .i64 (j : Int)] 3))).pushF (x := (j : Int)) ho9 hg9 hat9 (by simp))
                    clear ho9 hg9 hat9 hlt9 ob9
                    go_roundw
                    case rel =>
                      have EP2 := EP.out
                      rw [← HF1.out, ← HFF.out, ← HTT.out] at EP2
                      first | exact ⟨j + 1, aT, cT, some ⟨g9, 0, none⟩, cap9, by omega, by go_num, EP2⟩ | exact ⟨_, rfl, j + 1, by omega, by go_num, aT, cT, some ⟨g9, 0, none⟩, cap9, EP2⟩ | exact ⟨_, ⟨j + 1, by omega, by go_num, aT, cT, some ⟨g9, 0, none⟩, cap9, EP2⟩, rfl, HB.out⟩
                    case measure => simp [intOf]; omega
                  | false =>
                    rw [hb] at HF1 w0
                    simp only [Bool.false_eq_true, if_false, List.append_nil] at HF1
                    have HB : Hid (re = false) := hb
                    clear hb
                    go_wp2_with fail
                    go_roundw
                    case rel =>
                      have EJ2 := EJ.out
                      rw [← HF1.out, ← HFF.out, ← HTT.out] at EJ2
                      first | exact ⟨j + 1, aT, cT, aF, cF, by omega, by go_num, EJ2⟩ | exact ⟨_, rfl, j + 1, by omega, by go_num, aT, cT, aF, cF, EJ2⟩ | exact ⟨_, ⟨j + 1, by omega, by go_num, aT, cT, aF, cF, EJ2⟩, rfl, HB.out⟩
                    case measure => simp [intOf]; omega
          · have hjlei : ¬ (j : Int) ≤ (n : Int) := by omega
            have hjn2 : j = n + 1 := by omega
            subst hjn2
            have o0 : wz.cell? ⟨wr.heap.size + 1 + 1, 0, none⟩ = some (.int .i64 letters) := by rw [cell_of_row _ _ _ _ _ (0, 0) EN.out.ob]; rfl
            have o1 : wz.cell? ⟨wr.heap.size + 1 + 1, 1, none⟩ = some (.int .i64 ((n : Int) + 1)) := by rw [cell_of_row _ _ _ _ _ (0, 0) EN.out.ob]; rfl
            have o2 : wz.cell? ⟨wr.heap.size + 1 + 1, 2, none⟩ = some (.slice (some ⟨wr.heap.size + 1, 0, none⟩) 1 1) := by rw [cell_of_row _ _ _ _ _ (0, 0) EN.out.ob]; rfl
            have htl := stpP_len n S ⟨rf, rl, re⟩ (n + 1)
            have hfl := finP_len n ⟨rf, rl, re⟩ (n + 1)
            have h3 : (n + 1) * n ≤ 11 * 10 := Nat.mul_le_mul (by omega) hn10
            have o3 : wz.cell? ⟨wr.heap.size + 1 + 1, 3, none⟩ = some (.slice aT (stpP n S ⟨rf, rl, re⟩ (n + 1)).length cT) := EN.out.box.1
            have o4 : wz.cell? ⟨wr.heap.size + 1 + 1, 4, none⟩ = some (.slice aF (finP n ⟨rf, rl, re⟩ (n + 1)).length cF) := EN.out.box.2.1
            have rb := EN.out.rb
            have r0 : wz.cell? ⟨w.heap.size, 0, none⟩ = some (.int .i64 0) := by rw [cell_of_row _ _ _ _ _ (0, 0) rb]; rfl
            have r1 : wz.cell? ⟨w.heap.size, 1, none⟩ = some (.int .i64 0) := by rw [cell_of_row _ _ _ _ _ (0, 0) rb]; rfl
            have r2 : wz.cell? ⟨w.heap.size, 2, none⟩ = some (.slice none 0 0) := by rw [cell_of_row _ _ _ _ _ (0, 0) rb]; rfl
            have r3 : wz.cell? ⟨w.heap.size, 3, none⟩ = some (.slice none 0 0) := by rw [cell_of_row _ _ _ _ _ (0, 0) rb]; rfl
            have r4 : wz.cell? ⟨w.heap.size, 4, none⟩ = some (.slice none 0 0) := by rw [cell_of_row _ _ _ _ _ (0, 0) rb]; rfl
            have rz := fun k => frozen_of_row wz w.heap.size k _ _ rb
            have rz0 := rz 0
            have rz1 := rz 1
            have rz2 := rz 2
            have rz3 := rz 3
            have rz4 := rz 4
            obtain ⟨W9, hW9, hg9, s0, s1, s2, s3, s4⟩ := aut_store rb (.int .i64 letters) (.int .i64 ((n : Int) + 1)) (.slice (some ⟨wr.heap.size + 1, 0, none⟩) 1 1) (.slice aT (stpP n S ⟨rf, rl, re⟩ (n + 1)).length cT) (.slice aF (finP n ⟨rf, rl, re⟩ (n + 1)).length cF)
            have Fin : Hid (Po (.returned (autV letters ((n : Int) + 1) (some ⟨wr.heap.size + 1, 0, none⟩) 1 1 aT (stpP n S ⟨rf, rl, re⟩ (n + 1)).length cT aF (finP n ⟨rf, rl, re⟩ (n + 1)).length cF)) W9) := by
              show Po _ _
              rw [HPo.out, ← HSl.out]
              unfold PlcPost
              rw [HR.out]
              obtain ⟨d1, d2⟩ := EN.out.done hg9 (by omega) (by omega)
              exact ⟨_, _, _, _, _, _, rfl, d1, d2⟩
            clear rz rb hg9 EN w0 w1 w2
            generalize (stpP n S ⟨rf, rl, re⟩ (n + 1)).length = lT at *
            generalize (finP n ⟨rf, rl, re⟩ (n + 1)).length = lF at *
            go_wp2_with fail
            rw [← hW9]
            exact bodyPost_ret (v := autV letters ((n : Int) + 1) (some ⟨wr.heap.size + 1, 0, none⟩) 1 1 aT lT cT aF lF cF) (by simp [results, Tryd.results26, go_sem, s0, s1, s2, s3, s4]) rfl Fin.out
end Go.Proofs.YtkkmdcnbifepjaaDoor
