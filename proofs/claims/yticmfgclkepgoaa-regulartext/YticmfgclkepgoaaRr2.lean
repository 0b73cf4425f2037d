/- What holds while the reference's reader gathers the numbers of parts in a list of its own. -/
/- A row, as the reference reads it. -/
import Derived.Test.YticmfgclkepgoaaROne
namespace Go.Proofs.Yticmfgclkepgoaa
open Go.RowKit
set_option linter.unusedVariables false

/-- While numbers ks are gathered at v: the reader is at q, with code c. -/
structure St (w0 : World) (s : ByteArray) (b d q : Nat) (L0 L v : Value) (ps qs : List PartR) (ks : List Int) (c : Int) (a : Nat) (w : World) : Prop where
  fr : Fr w0 w b L0 L
  parts : Parts w b L (ps ++ qs)
  new : New w0.heap.size w qs
  rd : RRd w b s q d L c a
  own : w.ownsRow w0.heap.size 3 1 v ks.length (ks.map (Value.int .i64))
  apart : ∀ g, v.ownBlock = some g → L.ownBlock ≠ some g
  kids : ∀ p ∈ ps ++ qs, KidsAt (fun g => v.ownBlock ≠ some g) w p
  hb : b < w0.heap.size

section
variable {w0 : World} {s : ByteArray} {b d q : Nat} {L0 L v : Value} {ps qs : List PartR} {ks : List Int} {c : Int} {a : Nat} {w w' : World}

theorem St.call {L' : Value} {qs' : List PartR} {q' d' : Nat} {c' : Int} {a' : Nat} (h : St w0 s b d q L0 L v ps qs ks c a w) (hF : Fr w w' b L L') (hP : Parts w' b L' ((ps ++ qs) ++ qs')) (hN : New w.heap.size w' qs') (hR : RRd w' b s q' d' L' c' a') :
    St w0 s b d' q' L0 L' v ps (qs ++ qs') ks c' a' w' := by
  have hv : ∀ g, v.ownBlock = some g → w0.heap.size ≤ g ∧ g < w.heap.size := h.own.lt
  refine ⟨h.fr.trans hF, by rw [← List.append_assoc]; exact hP, ?_, hR, ⟨h.own.1, ?_⟩, ?_, ?_, h.hb⟩
  · intro p hp
    rcases List.mem_append.1 hp with hp | hp
    · exact (h.new.step h.parts hF (Nat.le_refl _)) p hp
    · exact (hN p hp).kept fun g hg _ => ⟨Nat.le_trans h.fr.size hg, rfl⟩
  · rcases h.own.2 with hn | ⟨g, cap, cur, e, hg, hh, r⟩
    · exact .inl hn
    · have h1 := hv g (by rw [e]; rfl)
      refine .inr ⟨g, cap, cur, e, hg, ?_, r⟩
      rw [hF.block g h1.2 (by have := h.hb; omega) (h.apart g (by rw [e]; rfl))]
      exact hh
  · intro g hg
    rcases hF.new with e | ⟨g', e, hg'⟩
    · rw [e]; exact h.apart g hg
    · rw [e]; have := hv g hg; simp; omega
  · intro p hp
    rw [← List.append_assoc] at hp
    rcases List.mem_append.1 hp with hp | hp
    · exact h.parts.fr_kids hF hp (h.kids p hp)
    · exact (hN p hp).kept fun g hg _ => ⟨fun e => by have := hv g e; omega, rfl⟩

theorem St.quiet (h : St w0 s b d q L0 L v ps qs ks c a w) (hg : w.grownBy w' none) : St w0 s b d q L0 L v ps qs ks c a w' := by
  have := h.call (qs' := []) (Fr.grown' hg) (by rw [List.append_nil]; exact h.parts.kept' hg) (fun p hp => by simp at hp) (h.rd.kept hg (by simp))
  rwa [List.append_nil] at this

theorem St.set1 (h : St w0 s b d q L0 L v ps qs ks c a w) (j : Nat) {x : Int} (hx : x = j) : St w0 s b d j L0 L v ps qs ks c a (w.setCell ⟨b, 1, none⟩ (.int .i64 x)) := by
  have := h.call (qs' := []) (Fr.set w b 1 (.int .i64 x) L) (by rw [List.append_nil]; exact h.parts.set 1 _) (fun p hp => by simp at hp) (h.rd.set1 j hx)
  rwa [List.append_nil] at this

/-- The first number. -/
theorem St.start {k : Int} (hF : Fr w0 w b L0 L) (hP : Parts w b L (ps ++ qs)) (hN : New w0.heap.size w qs) (hR : RRd w b s q d L c a) (hb : b < w0.heap.size) :
    St w0 s b d q L0 L (.slice (some ⟨w.heap.size, 0, none⟩) 1 1) ps qs [k] c a (w.alloc (.cells #[.int .i64 k] 3)) := by
  have hg : w.grownBy (w.alloc (.cells #[.int .i64 k] 3)) none := World.grownBy_alloc _ _ _
  refine ⟨hF.trans (Fr.grown' hg), hP.kept' hg, hN.step hP (Fr.grown' hg) (Nat.le_refl _), hR.kept hg (by simp), ⟨rfl, .inr ⟨w.heap.size, 1, _, rfl, hF.size, heap_alloc_new w _, by simp, by unfold maxLen; omega, rfl, by simp⟩⟩, ?_, ?_, hb⟩
  · intro g hg e
    simp [Value.ownBlock] at hg
    have := hP.block g e
    omega
  · intro p hp
    exact (hP.at_ p hp).kept fun g _ hlt => ⟨by simp [Value.ownBlock]; omega, hg.block g hlt (by simp)⟩

/-- One number more. -/
theorem St.push {k : Int} {v' : Value} (h : St w0 s b d q L0 L v ps qs ks c a w) (hn : 0 < ks.length) (ho : w'.ownsRow w0.heap.size 3 1 v' (ks.length + 1) (ks.map (Value.int .i64) ++ [Value.int .i64 k]))
    (hg : (w.alloc (.cells #[.int .i64 k] 3)).grownBy w' v.ownBlock) (hat : v'.ownBlock = v.ownBlock ∨ v'.ownBlock = some (w.heap.size + 1)) : St w0 s b d q L0 L v' ps qs (ks ++ [k]) c a w' := by
  have hsz : (w.alloc (.cells #[.int .i64 k] 3)).heap.size = w.heap.size + 1 := by simp
  have hstep : ∀ g, g < w.heap.size → v.ownBlock ≠ some g → w'.heap[g]? = w.heap[g]? := fun g hq hne =>
    (hg.block g (by omega) (Ne.symm hne)).trans (Below.heap_alloc _ _ _ hq)
  have hnot : ∀ g, g < w.heap.size → v.ownBlock ≠ some g → v'.ownBlock ≠ some g := by
    intro g hlt hne
    rcases hat with e | e
    · rw [e]; exact hne
    · rw [e]; simp; omega
  obtain ⟨g0, cap0, hv0, hg0, hlt0⟩ := h.own.form hn
  have hvb : v.ownBlock = some g0 := by rw [hv0]; rfl
  have hbl : ∀ g, g < w.heap.size → g ≠ g0 → w'.heap[g]? = w.heap[g]? := fun g h1 h2 => hstep g h1 (by rw [hvb]; simp; omega)
  refine ⟨?_, ⟨?_, ?_⟩, ?_, ?_, by simpa using ho, ?_, ?_, h.hb⟩
  · have h1 := h.fr.trans (Fr.grown' (b := b) (L := L) (World.grownBy_alloc w (.cells #[.int .i64 k] 3) none))
    rw [hvb] at hg
    exact h1.own hg hg0
  · refine ⟨h.parts.own.1, ?_⟩
    rcases h.parts.own.2 with hn | ⟨g, cap, cur, e, h1, hh, r⟩
    · exact .inl hn
    · refine .inr ⟨g, cap, cur, e, h1, ?_, r⟩
      rw [hbl g (Array.getElem?_eq_some_iff.1 hh).1 (fun e' => h.apart g0 hvb (by rw [e, ← e']; rfl))]
      exact hh
  · intro p hp
    exact ((h.parts.at_ p hp).and (h.kids p hp)).kept fun g ⟨h1, h2⟩ hlt => ⟨h1, hstep g hlt h2⟩
  · intro p hp
    exact ((h.new p hp).and (h.kids p (List.mem_append_right _ hp))).kept fun g ⟨h1, h2⟩ hlt => ⟨h1, hstep g hlt h2⟩
  · have hne : b ≠ g0 := by have := h.hb; omega
    exact (hbl b h.rd.lt hne).trans h.rd
  · intro g hgv e
    have := h.parts.block g e
    rcases hat with e' | e'
    · rw [e'] at hgv
      exact h.apart g hgv e
    · rw [e'] at hgv
      simp at hgv
      omega
  · intro p hp
    exact (h.kids p hp).kept fun g h1 hlt => ⟨hnot g hlt h1, hstep g hlt h1⟩

theorem St.kidsAt (h : St w0 s b d q L0 L v ps qs ks c a w) (hn : 0 < ks.length) (kind : Int) : KidsAt (fun g => b < g ∧ L.ownBlock ≠ some g) w ⟨kind, 0, v, ks⟩ ∧ KidsAt (fun g => w0.heap.size ≤ g) w ⟨kind, 0, v, ks⟩ := by
  obtain ⟨g, cap, rfl, hg, hlt⟩ := h.own.form hn
  have hc : ∀ k, k < ks.length → w.cell? ⟨g, k, none⟩ = some (.int .i64 (ks.getD k 0)) := by
    intro k hk
    have := h.own.cellAt k (by omega)
    rw [this]
    simp [List.getD, hk]
  exact ⟨⟨⟨_, _, _, rfl⟩, .inr ⟨g, cap, ⟨by have := h.hb; omega, h.apart g rfl⟩, rfl, hc⟩⟩, ⟨⟨_, _, _, rfl⟩, .inr ⟨g, cap, hg, rfl, hc⟩⟩⟩

/-- The list is put as a part. -/
theorem St.done {L' : Value} {kind : Int} (h : St w0 s b d q L0 L v ps qs ks c a w) (hn : 0 < ks.length) (hF : Fr w w' b L L') (hP : Parts w' b L' ((ps ++ qs) ++ [⟨kind, 0, v, ks⟩])) :
    Fr w0 w' b L0 L' ∧ Parts w' b L' (ps ++ (qs ++ [⟨kind, 0, v, ks⟩])) ∧ New w0.heap.size w' (qs ++ [⟨kind, 0, v, ks⟩]) := by
  refine ⟨h.fr.trans hF, by rw [← List.append_assoc]; exact hP, ?_⟩
  intro p hp
  rcases List.mem_append.1 hp with hp | hp
  · exact (h.new.step h.parts hF (Nat.le_refl _)) p hp
  · have : p = ⟨kind, 0, v, ks⟩ := by simpa using hp
    subst this
    obtain ⟨k1, k2⟩ := h.kidsAt hn kind
    exact (k2.and k1).kept fun g ⟨h1, h2, h3⟩ hlt => ⟨h1, hF.block g hlt (by omega) h3⟩
end

/-- What is left to read; nothing behind a fault. -/
def leftOf (w : World) (b n : Nat) : Nat := match w.cell? ⟨b, 4, none⟩ with | some v => if intOf v = 0 then n + 1 - placeOf w b else 0 | none => 0
theorem RRd.left {w : World} {b : Nat} {s : ByteArray} {i d : Nat} {L : Value} {a : Nat} (h : RRd w b s i d L 0 a) (n : Nat) : leftOf w b n = n + 1 - i := by simp [leftOf, h.c4, h.place, intOf]
theorem RRd.left_bad {w : World} {b : Nat} {s : ByteArray} {i d : Nat} {L : Value} {c : Int} {a : Nat} (h : RRd w b s i d L c a) (hc : c ≠ 0) (n : Nat) : leftOf w b n = 0 := by simp [leftOf, h.c4, intOf, hc]

/-- Which bytes begin a part. -/
theorem begins_classes {c : Nat} (h : beginsF c = true) : c = 48 ∨ c = 49 ∨ c = 40 ∨ (((c : Int) == 48) = false ∧ ((c : Int) == 49) = false ∧ (97 : Int) ≤ (c : Int) ∧ (c : Int) ≤ 100) := by
  simp [beginsF] at h
  rcases h with ((h | h) | h) | ⟨h1, h2⟩
  · exact .inl h
  · exact .inr (.inl h)
  · exact .inr (.inr (.inl h))
  · exact .inr (.inr (.inr ⟨by simp; omega, by simp; omega, by omega, by omega⟩))
theorem begins_others {c : Nat} (h : ¬ beginsF c = true) : (((c : Int) == 48) = false ∧ ((c : Int) == 49) = false ∧ ((c : Int) == 40) = false) ∧ (decide ((97 : Int) ≤ (c : Int)) = false ∨ ((97 : Int) ≤ (c : Int) ∧ decide ((c : Int) ≤ 100) = false)) := by
  simp [beginsF] at h
  refine ⟨⟨by simp; omega, by simp; omega, by simp; omega⟩, ?_⟩
  by_cases h9 : 97 ≤ c
  · exact .inr ⟨by omega, by simp; omega⟩
  · exact .inl (by simp; omega)

end Go.Proofs.Yticmfgclkepgoaa

namespace Go.Proofs.Yticmfgclkepgoaa
open Go.RowKit
set_option linter.unusedVariables false

theorem Try.info3 : (Try.prog.info? 3).map (fun i => (i.zero, i.size, i.bytes)) = some (some (.int .i64 0), 1, 8) := by kernel_rfl

theorem RGives.flat {s : ByteArray} {b d i : Nat} {w w' : World} {L : Value} {ps : List PartR} {z y : Nat} {R : Res} {e : Ending} (h : RGives s b d i w L ps z y R e w') :
    ∃ (k : Int) (L' : Value) (qs : List PartR) (q : Nat) (c : Int) (a : Nat), e = .returned (.int .i64 k) ∧ Fr w w' b L L' ∧ Parts w' b L' (ps ++ qs) ∧ New w.heap.size w' qs ∧ RRd w' b s q d L' c a ∧
      ((∃ m, R = .good m q ∧ c = 0 ∧ a = 0 ∧ (∃ kk : Nat, k = kk ∧ Means (ps ++ qs) ps.length kk m ∧ kk + 1 = ps.length + qs.length) ∧ qs.length + z ≤ 3 * (q - i)) ∨ (R = .bad c q ∧ c ≠ 0 ∧ q = a ∧ i ≤ q ∧ q ≤ s.size ∧ qs.length ≤ 3 * (q - i) + y)) := by
  cases R with
  | good m j =>
    obtain ⟨L', qs, hF, hP, hN, kk, hkk, he, h0, hR, hM, hq⟩ := h
    exact ⟨kk, L', qs, j, 0, 0, he, hF, hP, hN, hR, .inl ⟨m, rfl, rfl, rfl, ⟨kk, rfl, hM, hkk⟩, hq⟩⟩
  | bad c j =>
    obtain ⟨L', qs, hF, hP, hN, ⟨k, he⟩, hR, hc, h1, h2, hq⟩ := h
    exact ⟨k, L', qs, j, c, j, he, hF, hP, hN, hR, .inr ⟨rfl, hc, rfl, h1, h2, hq⟩⟩


/-- What holds at each round's head. -/
def RowRel (w : World) (s : ByteArray) (b d i : Nat) (L : Value) (ps : List PartR) (O : Nat → Nat → Res) (R0 : Res) (v3 v4 : Value) (wr : World) : Prop :=
  ∃ (k3 : Int) (q : Nat) (L4 : Value) (qs : List PartR) (ks : List Int) (c : Int) (a : Nat), v3 = .int .i64 k3 ∧ 0 < ks.length ∧ ks.length ≤ q + 1 ∧ q ≤ s.size ∧ i ≤ q ∧ St w s b d q L L4 v4 ps qs ks c a wr ∧
    ((c = 0 ∧ a = 0 ∧ ks.length ≤ q ∧ qs.length + 2 ≤ 3 * (q - i) ∧ ∃ (kf : Nat) (ms : List Sense) (kn : List Nat), ks = kn.map Int.ofNat ∧ kn.length = ms.length ∧ (KM (ps ++ qs) ps.length kn ms) ∧ s.size - q < kf ∧ R0 = rowX s O d kf ms q) ∨
     (c ≠ 0 ∧ q = a ∧ qs.length ≤ 3 * (q - i) + 0 ∧ R0 = .bad c q))

theorem RowRel.start {w w4 : World} {s : ByteArray} {b d i : Nat} {L : Value} {ps : List PartR} {O : Nat → Nat → Res} (hadv : Adv s O) (hi : i ≤ s.size) (hb : b < w.heap.size) {e : Ending} (h : RGives s b d i w L ps 2 0 (O i d) e w4) :
    ∃ k3 : Int, e = .returned (.int .i64 k3) ∧ RowRel w s b d i L ps O (rowS s O i d) (.int .i64 k3) (.slice (some ⟨w4.heap.size, 0, none⟩) 1 1) (w4.alloc (.cells #[.int .i64 k3] 3)) := by
  obtain ⟨k, L4, qs, q, c, a, he, hF, hP, hN, hR, hcase⟩ := h.flat
  refine ⟨k, he, ?_⟩
  have st := St.start (k := k) hF hP hN hR hb
  rcases hcase with ⟨m, hO, rfl, rfl, ⟨kk, rfl, hM, hk1⟩, hq⟩ | ⟨hO, hc, rfl, h1, h2, hq⟩
  · have := hadv _ _ _ _ hO
    refine ⟨kk, q, L4, qs, _, 0, 0, rfl, by simp, by simp, by omega, by omega, st, .inl ⟨rfl, rfl, by simp; omega, hq, s.size + 1, [m], [kk], rfl, rfl, ?_, by omega, by unfold rowS; rw [hO]⟩⟩
    exact KM.one hM (by simpa using hk1)
  · exact ⟨k, q, L4, qs, _, c, q, rfl, by simp, by simp, h2, h1, st, .inr ⟨hc, rfl, hq, by unfold rowS; rw [hO]⟩⟩

theorem RowRel.next {w w5 w6 w7 : World} {s : ByteArray} {b d i : Nat} {L L4 : Value} {ps qs : List PartR} {O : Nat → Nat → Res} {R0 : Res} {q g cap g7 cap7 : Nat} {ks : List Int} {ms : List Sense} {kn : List Nat} {kf : Nat} (hadv : Adv s O)
    (st : St w s b d (q) L L4 (.slice (some ⟨g, 0, none⟩) ks.length cap) ps qs ks 0 0 w5) (hlt : q < s.size) (hiq : i ≤ q) (hks0 : 0 < ks.length) (hks : ks.length ≤ q) (hq : qs.length + 2 ≤ 3 * (q - i)) (hkn : ks = kn.map Int.ofNat) (hl : kn.length = ms.length)
    (hM : KM (ps ++ qs) ps.length kn ms) (hkf : s.size - q < kf + 1) (hb : beginsF (byteAt s q) = true) (hR0 : R0 = rowX s O d (kf + 1) ms q) {k : Int} {e : Ending} (h : RGives s b d (q) w5 L4 (ps ++ qs) 2 0 (O (q) d) e w6) (he : e = .returned (.int .i64 k))
    (ho : w7.ownsRow w.heap.size 3 1 (.slice (some ⟨g7, 0, none⟩) (ks.length + 1) cap7) (ks.length + 1) (ks.map (Value.int .i64) ++ [Value.int .i64 k])) (hg : (w6.alloc (.cells #[.int .i64 k] 3)).grownBy w7 (some g)) (hat : g = g7 ∨ g7 = w6.heap.size + 1) :
    RowRel w s b d i L ps O R0 (.int .i64 k) (.slice (some ⟨g7, 0, none⟩) (ks.length + 1) cap7) w7 ∧ leftOf w7 b s.size < s.size + 1 - q := by
  obtain ⟨k', L5, qs', q', c', a', he', hF, hP, hN, hR, hcase⟩ := h.flat
  obtain rfl : k = k' := by rw [he] at he'; simpa using he'
  have st6 := st.call hF hP hN hR
  have hat' : (Value.slice (some ⟨g7, 0, none⟩) (ks.length + 1) cap7).ownBlock = (Value.slice (some ⟨g, 0, none⟩) ks.length cap).ownBlock ∨ (Value.slice (some ⟨g7, 0, none⟩) (ks.length + 1) cap7).ownBlock = some (w6.heap.size + 1) := by
    rcases hat with e | e
    · exact .inl (by rw [e]; rfl)
    · exact .inr (by rw [e]; rfl)
  have st7 := st6.push hks0 ho hg hat'
  rcases hcase with ⟨m, hO, rfl, rfl, ⟨kk, rfl, hMm, hk1⟩, hq'⟩ | ⟨hO, hc, rfl, h1, h2, hq'⟩
  · have := hadv _ _ _ _ hO
    refine ⟨⟨kk, q', L5, qs ++ qs', ks ++ [(kk : Int)], 0, 0, rfl, by simp, by simp; omega, by omega, by omega, by simpa using st7, .inl ⟨rfl, rfl, by simp; omega, by simp; omega, kf, ms ++ [m], kn ++ [kk], by simp [hkn], by simp [hl], ?_, by omega, by rw [hR0, rowX, if_pos hb, hO]⟩⟩, by rw [st7.rd.left]; omega⟩
    rw [← List.append_assoc]
    exact hM.snoc hl hMm (by simp at hk1 ⊢; omega)
  · exact ⟨⟨k, q', L5, qs ++ qs', ks ++ [k], c', q', rfl, by simp, by simp; omega, h2, by omega, by simpa using st7, .inr ⟨hc, rfl, by simp; omega, by rw [hR0, rowX, if_pos hb, hO]⟩⟩, by rw [st7.rd.left_bad hc]; omega⟩

set_option maxHeartbeats 3200000 in
theorem rrow_does (s : ByteArray) (O : Nat → Nat → Res) (n : Nat) (hs : s.size ≤ 4000) (hadv : Adv s O) (hO : RDoes 41 s O 2 0 n) : RDoes 27 s (rowS s O) 1 1 n := by
  intro i d b w L ps hi hn hd hps h hp
  have HO : Hid (∀ (i : Nat) (w : World) (L : Value) (ps : List PartR), i ≤ s.size → s.size - i < n → ps.length ≤ 3 * i → RRd w b s i d L 0 0 → Parts w b L ps → Calls Try.prog 41 #[.pointer (some ⟨b, 0, none⟩)] w (RGives s b d i w L ps 2 0 (O i d))) := fun i w L ps h1 h2 h3 h4 h5 => hO i d b w L ps h1 h2 hd h3 h4 h5
  have H0 : Hid (Calls Try.prog 41 #[.pointer (some ⟨b, 0, none⟩)] w (RGives s b d i w L ps 2 0 (O i d))) := hO i d b w L ps hi hn hd hps h hp
  have HB : Hid (b < w.heap.size) := h.lt
  clear h hp hO
  obtain ⟨i0, hi0, hz0, hz1, hz2⟩ := info_parts Try.info3
  have HS : Hid (∀ (e : Ending) (w4 : World), RGives s b d i w L ps 2 0 (O i d) e w4 → ∃ k3 : Int, e = .returned (.int .i64 k3) ∧ RowRel w s b d i L ps O (rowS s O i d) (.int .i64 k3) (.slice (some ⟨w4.heap.size, 0, none⟩) 1 1) (w4.alloc (.cells #[.int .i64 k3] 3))) := fun e w4 h => RowRel.start hadv hi HB.out h
  generalize rowS s O i d = R0 at *
  go_enter Try.func27, Try.ntmps27
  go_wp2_with fail
  refine H0.out.mono ?_
  intro e w4 hg4
  obtain ⟨k3, rfl, hrel0⟩ := HS.out e w4 hg4
  have HR0 : Hid (RowRel w s b d i L ps O R0 (.int .i64 k3) (.slice (some ⟨w4.heap.size, 0, none⟩) 1 1) (w4.alloc (.cells #[.int .i64 k3] 3))) := hrel0
  clear hg4 hrel0 HS H0
  go_wp2_with fail
  go_loopw [3, 4] (fun v3 v4 wr => RowRel w s b d i L ps O R0 v3 v4 wr) (fun _ _ wr => leftOf wr b s.size)
  case atStart => exact HR0.out
  case round =>
    clear HR0
    obtain ⟨k3, q, L4, qs, ks, c, a, rfl, hks0, hks1, hq1, hiq, st, hcase⟩ := hrel
    obtain ⟨g, cap, rfl, hg0, hglt⟩ := st.own.form hks0
    have S4 : Hid (St w s b d q L L4 (.slice (some ⟨g, 0, none⟩) ks.length cap) ps qs ks c a wr) := st
    clear st
    rcases hcase with ⟨rfl, rfl, hksq, hq, kf, ms, kn, hkn, hl, hM, hkf, hR0⟩ | ⟨hc0, rfl, hq, hR0⟩
    · have HM : Hid (KM (ps ++ qs) ps.length kn ms) := hM
      have HKN : Hid (ks = kn.map Int.ofNat) := hkn
      have HRR : Hid (R0 = rowX s O d kf ms q) := hR0
      have HLL : Hid (kn.length = ms.length) := hl
      have PL : leftOf wr b s.size = s.size + 1 - q := S4.out.rd.left _
      clear hM hkn hR0 hl
      obtain ⟨kf', rfl⟩ : ∃ kf', kf = kf' + 1 := ⟨kf - 1, by omega⟩
      by_cases hb : beginsF (byteAt s q) = true
      · have hql : q < s.size := begins_lt hb
        rcases begins_classes hb with hc | hc | hc | ⟨g1, g2, g3, g4⟩
        ·
          go_wp2_with fail
          refine (now_any s b q d L4 0 0 _ hs hq1 S4.out.rd).mono ?_
          rintro e w5 ⟨rfl, hg5⟩
          have S5 : Hid (St w s b d q L L4 (.slice (some ⟨g, 0, none⟩) ks.length cap) ps qs ks 0 0 w5) := S4.out.quiet hg5
          clear S4 hg5
          rw [hc]
          go_wp2_with fail
          refine (ok_any s b q d L4 0 0 _ S5.out.rd).mono ?_
          rintro e w6 ⟨rfl, hw6⟩
          obtain rfl : w5 = w6 := hw6.symm
          have S6 := S5
          clear S5
          go_wp2_with fail
          refine (HO.out (q) _ L4 (ps ++ qs) (by omega) (by omega) (by simp; omega) S6.out.rd S6.out.parts).mono ?_
          intro e w7 hg7
          obtain ⟨k7, he7⟩ : ∃ k : Int, e = .returned (.int .i64 k) := by obtain ⟨k, _, _, _, _, _, he, _⟩ := hg7.flat; exact ⟨k, he⟩
          subst he7
          have G7 : Hid (RGives s b d (q) w5 L4 (ps ++ qs) 2 0 (O (q) d) (.returned (.int .i64 k7)) w7) := hg7
          have O7 : Hid ((w7.alloc (.cells #[.int .i64 k7] 3)).ownsRow w.heap.size 3 1 (.slice (some ⟨g, 0, none⟩) ks.length cap) ks.length (ks.map (Value.int .i64))) := by
            obtain ⟨k', L5, qs', q', c', a', he', hF, hP, hN, hR, hcase⟩ := hg7.flat
            exact (S6.out.call hF hP hN hR).own.alloc _
          have Z7 : Hid (w.heap.size ≤ w7.heap.size) := by
            obtain ⟨k', L5, qs', q', c', a', he', hF, hP, hN, hR, hcase⟩ := hg7.flat
            exact Nat.le_trans S6.out.fr.size hF.size
          clear hg7
          go_wp2_with (first | (at_builtin; refine wpList_append_lies _ rfl (.tmp 42) (.tmp 44) 23 rfl w.heap.size 3 i0 (.int .i64 0) 1 8 Try.underlying23 hi0 hz0 hz1 hz2 rfl (by decide) (.slice (some ⟨g, 0, none⟩) ks.length cap) ks.length _ rfl O7.out ⟨w7.heap.size, 0, none⟩ 1 1 [.int .i64 k7] rfl rfl (cell_one_new _ _ _) (by intro u hu; simp at hu; subst hu; rfl) (by omega) (by unfold maxLen; omega) (by omega) (by have := Z7.out; simp; omega) (w7.heap.size + 1) (by simp) ?_; intro g8 cap8 w8 ho8 hg8 hat8 _))
          have E8 := RowRel.next hadv S6.out hql hiq hks0 hksq hq HKN.out HLL.out HM.out hkf hb HRR.out G7.out rfl ho8 hg8 (hat8.imp (fun e => by simpa [Value.ownBlock] using e) id)
          have HE8 : Hid (RowRel w s b d i L ps O R0 (.int .i64 k7) (.slice (some ⟨g8, 0, none⟩) (ks.length + 1) cap8) w8 ∧ leftOf w8 b s.size < s.size + 1 - q) := E8
          clear E8 ho8 hg8 hat8 O7 G7 S6 Z7
          go_wp2_with fail
          go_roundw
          case rel => exact HE8.out.1
          case measure => rw [PL]; exact HE8.out.2
        ·
          go_wp2_with fail
          refine (now_any s b q d L4 0 0 _ hs hq1 S4.out.rd).mono ?_
          rintro e w5 ⟨rfl, hg5⟩
          have S5 : Hid (St w s b d q L L4 (.slice (some ⟨g, 0, none⟩) ks.length cap) ps qs ks 0 0 w5) := S4.out.quiet hg5
          clear S4 hg5
          rw [hc]
          go_wp2_with fail
          refine (ok_any s b q d L4 0 0 _ S5.out.rd).mono ?_
          rintro e w6 ⟨rfl, hw6⟩
          obtain rfl : w5 = w6 := hw6.symm
          have S6 := S5
          clear S5
          go_wp2_with fail
          refine (HO.out (q) _ L4 (ps ++ qs) (by omega) (by omega) (by simp; omega) S6.out.rd S6.out.parts).mono ?_
          intro e w7 hg7
          obtain ⟨k7, he7⟩ : ∃ k : Int, e = .returned (.int .i64 k) := by obtain ⟨k, _, _, _, _, _, he, _⟩ := hg7.flat; exact ⟨k, he⟩
          subst he7
          have G7 : Hid (RGives s b d (q) w5 L4 (ps ++ qs) 2 0 (O (q) d) (.returned (.int .i64 k7)) w7) := hg7
          have O7 : Hid ((w7.alloc (.cells #[.int .i64 k7] 3)).ownsRow w.heap.size 3 1 (.slice (some ⟨g, 0, none⟩) ks.length cap) ks.length (ks.map (Value.int .i64))) := by
            obtain ⟨k', L5, qs', q', c', a', he', hF, hP, hN, hR, hcase⟩ := hg7.flat
            exact (S6.out.call hF hP hN hR).own.alloc _
          have Z7 : Hid (w.heap.size ≤ w7.heap.size) := by
            obtain ⟨k', L5, qs', q', c', a', he', hF, hP, hN, hR, hcase⟩ := hg7.flat
            exact Nat.le_trans S6.out.fr.size hF.size
          clear hg7
          go_wp2_with (first | (at_builtin; refine wpList_append_lies _ rfl (.tmp 42) (.tmp 44) 23 rfl w.heap.size 3 i0 (.int .i64 0) 1 8 Try.underlying23 hi0 hz0 hz1 hz2 rfl (by decide) (.slice (some ⟨g, 0, none⟩) ks.length cap) ks.length _ rfl O7.out ⟨w7.heap.size, 0, none⟩ 1 1 [.int .i64 k7] rfl rfl (cell_one_new _ _ _) (by intro u hu; simp at hu; subst hu; rfl) (by omega) (by unfold maxLen; omega) (by omega) (by have := Z7.out; simp; omega) (w7.heap.size + 1) (by simp) ?_; intro g8 cap8 w8 ho8 hg8 hat8 _))
          have E8 := RowRel.next hadv S6.out hql hiq hks0 hksq hq HKN.out HLL.out HM.out hkf hb HRR.out G7.out rfl ho8 hg8 (hat8.imp (fun e => by simpa [Value.ownBlock] using e) id)
          have HE8 : Hid (RowRel w s b d i L ps O R0 (.int .i64 k7) (.slice (some ⟨g8, 0, none⟩) (ks.length + 1) cap8) w8 ∧ leftOf w8 b s.size < s.size + 1 - q) := E8
          clear E8 ho8 hg8 hat8 O7 G7 S6 Z7
          go_wp2_with fail
          go_roundw
          case rel => exact HE8.out.1
          case measure => rw [PL]; exact HE8.out.2
        ·
          go_wp2_with fail
          refine (now_any s b q d L4 0 0 _ hs hq1 S4.out.rd).mono ?_
          rintro e w5 ⟨rfl, hg5⟩
          have S5 : Hid (St w s b d q L L4 (.slice (some ⟨g, 0, none⟩) ks.length cap) ps qs ks 0 0 w5) := S4.out.quiet hg5
          clear S4 hg5
          rw [hc]
          go_wp2_with fail
          refine (ok_any s b q d L4 0 0 _ S5.out.rd).mono ?_
          rintro e w6 ⟨rfl, hw6⟩
          obtain rfl : w5 = w6 := hw6.symm
          have S6 := S5
          clear S5
          go_wp2_with fail
          refine (HO.out (q) _ L4 (ps ++ qs) (by omega) (by omega) (by simp; omega) S6.out.rd S6.out.parts).mono ?_
          intro e w7 hg7
          obtain ⟨k7, he7⟩ : ∃ k : Int, e = .returned (.int .i64 k) := by obtain ⟨k, _, _, _, _, _, he, _⟩ := hg7.flat; exact ⟨k, he⟩
          subst he7
          have G7 : Hid (RGives s b d (q) w5 L4 (ps ++ qs) 2 0 (O (q) d) (.returned (.int .i64 k7)) w7) := hg7
          have O7 : Hid ((w7.alloc (.cells #[.int .i64 k7] 3)).ownsRow w.heap.size 3 1 (.slice (some ⟨g, 0, none⟩) ks.length cap) ks.length (ks.map (Value.int .i64))) := by
            obtain ⟨k', L5, qs', q', c', a', he', hF, hP, hN, hR, hcase⟩ := hg7.flat
            exact (S6.out.call hF hP hN hR).own.alloc _
          have Z7 : Hid (w.heap.size ≤ w7.heap.size) := by
            obtain ⟨k', L5, qs', q', c', a', he', hF, hP, hN, hR, hcase⟩ := hg7.flat
            exact Nat.le_trans S6.out.fr.size hF.size
          clear hg7
          go_wp2_with (first | (at_builtin; refine wpList_append_lies _ rfl (.tmp 42) (.tmp 44) 23 rfl w.heap.size 3 i0 (.int .i64 0) 1 8 Try.underlying23 hi0 hz0 hz1 hz2 rfl (by decide) (.slice (some ⟨g, 0, none⟩) ks.length cap) ks.length _ rfl O7.out ⟨w7.heap.size, 0, none⟩ 1 1 [.int .i64 k7] rfl rfl (cell_one_new _ _ _) (by intro u hu; simp at hu; subst hu; rfl) (by omega) (by unfold maxLen; omega) (by omega) (by have := Z7.out; simp; omega) (w7.heap.size + 1) (by simp) ?_; intro g8 cap8 w8 ho8 hg8 hat8 _))
          have E8 := RowRel.next hadv S6.out hql hiq hks0 hksq hq HKN.out HLL.out HM.out hkf hb HRR.out G7.out rfl ho8 hg8 (hat8.imp (fun e => by simpa [Value.ownBlock] using e) id)
          have HE8 : Hid (RowRel w s b d i L ps O R0 (.int .i64 k7) (.slice (some ⟨g8, 0, none⟩) (ks.length + 1) cap8) w8 ∧ leftOf w8 b s.size < s.size + 1 - q) := E8
          clear E8 ho8 hg8 hat8 O7 G7 S6 Z7
          go_wp2_with fail
          go_roundw
          case rel => exact HE8.out.1
          case measure => rw [PL]; exact HE8.out.2
        ·
          go_wp2_with fail
          refine (now_any s b q d L4 0 0 _ hs hq1 S4.out.rd).mono ?_
          rintro e w5 ⟨rfl, hg5⟩
          have S5 : Hid (St w s b d q L L4 (.slice (some ⟨g, 0, none⟩) ks.length cap) ps qs ks 0 0 w5) := S4.out.quiet hg5
          clear S4 hg5
          go_wp2_with fail
          refine (ok_any s b q d L4 0 0 _ S5.out.rd).mono ?_
          rintro e w6 ⟨rfl, hw6⟩
          obtain rfl : w5 = w6 := hw6.symm
          have S6 := S5
          clear S5
          go_wp2_with fail
          refine (HO.out (q) _ L4 (ps ++ qs) (by omega) (by omega) (by simp; omega) S6.out.rd S6.out.parts).mono ?_
          intro e w7 hg7
          obtain ⟨k7, he7⟩ : ∃ k : Int, e = .returned (.int .i64 k) := by obtain ⟨k, _, _, _, _, _, he, _⟩ := hg7.flat; exact ⟨k, he⟩
          subst he7
          have G7 : Hid (RGives s b d (q) w5 L4 (ps ++ qs) 2 0 (O (q) d) (.returned (.int .i64 k7)) w7) := hg7
          have O7 : Hid ((w7.alloc (.cells #[.int .i64 k7] 3)).ownsRow w.heap.size 3 1 (.slice (some ⟨g, 0, none⟩) ks.length cap) ks.length (ks.map (Value.int .i64))) := by
            obtain ⟨k', L5, qs', q', c', a', he', hF, hP, hN, hR, hcase⟩ := hg7.flat
            exact (S6.out.call hF hP hN hR).own.alloc _
          have Z7 : Hid (w.heap.size ≤ w7.heap.size) := by
            obtain ⟨k', L5, qs', q', c', a', he', hF, hP, hN, hR, hcase⟩ := hg7.flat
            exact Nat.le_trans S6.out.fr.size hF.size
          clear hg7
          go_wp2_with (first | (at_builtin; refine wpList_append_lies _ rfl (.tmp 42) (.tmp 44) 23 rfl w.heap.size 3 i0 (.int .i64 0) 1 8 Try.underlying23 hi0 hz0 hz1 hz2 rfl (by decide) (.slice (some ⟨g, 0, none⟩) ks.length cap) ks.length _ rfl O7.out ⟨w7.heap.size, 0, none⟩ 1 1 [.int .i64 k7] rfl rfl (cell_one_new _ _ _) (by intro u hu; simp at hu; subst hu; rfl) (by omega) (by unfold maxLen; omega) (by omega) (by have := Z7.out; simp; omega) (w7.heap.size + 1) (by simp) ?_; intro g8 cap8 w8 ho8 hg8 hat8 _))
          have E8 := RowRel.next hadv S6.out hql hiq hks0 hksq hq HKN.out HLL.out HM.out hkf hb HRR.out G7.out rfl ho8 hg8 (hat8.imp (fun e => by simpa [Value.ownBlock] using e) id)
          have HE8 : Hid (RowRel w s b d i L ps O R0 (.int .i64 k7) (.slice (some ⟨g8, 0, none⟩) (ks.length + 1) cap8) w8 ∧ leftOf w8 b s.size < s.size + 1 - q) := E8
          clear E8 ho8 hg8 hat8 O7 G7 S6 Z7
          go_wp2_with fail
          go_roundw
          case rel => exact HE8.out.1
          case measure => rw [PL]; exact HE8.out.2
      · have hfin : R0 = .good (rowOf ms) q := by rw [HRR.out, rowX, if_neg hb]
        have HF : Hid (R0 = .good (rowOf ms) q) := hfin
        clear hfin HRR
        obtain ⟨⟨g1, g2, g5⟩, g3 | ⟨g3, g4⟩⟩ := begins_others hb
        ·
          go_wp2_with fail
          refine (now_any s b q d L4 0 0 _ hs hq1 S4.out.rd).mono ?_
          rintro e w5 ⟨rfl, hg5⟩
          have S5 : Hid (St w s b d q L L4 (.slice (some ⟨g, 0, none⟩) ks.length cap) ps qs ks 0 0 w5) := S4.out.quiet hg5
          clear S4 hg5
          go_wp2_with fail
          refine (ok_any s b q d L4 0 0 _ S5.out.rd).mono ?_
          rintro e w6 ⟨rfl, hw6⟩
          obtain rfl : w5 = w6 := hw6.symm
          go_wp2_with fail
          refine (put_any s b q d L4 0 0 _ (ps ++ qs) ⟨4, 0, .slice (some ⟨g, 0, none⟩) ks.length cap, ks⟩ (by simp; omega) S5.out.rd S5.out.parts (S5.out.kidsAt hks0 4).1).mono ?_
          rintro e w9 ⟨rfl, L9, hR9, hP9, hF9⟩
          have D9 := S5.out.done hks0 hF9 hP9
          have E : Hid (RGives s b d i w L ps 1 1 (.good (rowOf ms) q) (.returned (.int .i64 (ps ++ qs).length)) w9) := by
            refine ⟨L9, _, D9.1, D9.2.1, D9.2.2, (ps ++ qs).length, by simp; omega, rfl, by simp, hR9, ?_, by simp; omega⟩
            rw [← List.append_assoc]
            exact .row _ _ ⟨4, 0, .slice (some ⟨g, 0, none⟩) ks.length cap, ks⟩ kn ms (by simp) rfl (by have h1 := HLL.out; have h2 := congrArg List.length HKN.out; simp at h2; omega) HKN.out HLL.out (fun e he => (HM.out.1 e he).mono) (by have := HM.out.2; simpa using this)
          clear hR9 hP9 hF9 D9 S5 HM HKN HLL
          generalize (ps ++ qs).length = kl at *
          go_wp2_with fail
          go_ret
          rw [HF.out]
          exact E.out
        ·
          go_wp2_with fail
          refine (now_any s b q d L4 0 0 _ hs hq1 S4.out.rd).mono ?_
          rintro e w5 ⟨rfl, hg5⟩
          have S5 : Hid (St w s b d q L L4 (.slice (some ⟨g, 0, none⟩) ks.length cap) ps qs ks 0 0 w5) := S4.out.quiet hg5
          clear S4 hg5
          go_wp2_with fail
          refine (ok_any s b q d L4 0 0 _ S5.out.rd).mono ?_
          rintro e w6 ⟨rfl, hw6⟩
          obtain rfl : w5 = w6 := hw6.symm
          go_wp2_with fail
          refine (put_any s b q d L4 0 0 _ (ps ++ qs) ⟨4, 0, .slice (some ⟨g, 0, none⟩) ks.length cap, ks⟩ (by simp; omega) S5.out.rd S5.out.parts (S5.out.kidsAt hks0 4).1).mono ?_
          rintro e w9 ⟨rfl, L9, hR9, hP9, hF9⟩
          have D9 := S5.out.done hks0 hF9 hP9
          have E : Hid (RGives s b d i w L ps 1 1 (.good (rowOf ms) q) (.returned (.int .i64 (ps ++ qs).length)) w9) := by
            refine ⟨L9, _, D9.1, D9.2.1, D9.2.2, (ps ++ qs).length, by simp; omega, rfl, by simp, hR9, ?_, by simp; omega⟩
            rw [← List.append_assoc]
            exact .row _ _ ⟨4, 0, .slice (some ⟨g, 0, none⟩) ks.length cap, ks⟩ kn ms (by simp) rfl (by have h1 := HLL.out; have h2 := congrArg List.length HKN.out; simp at h2; omega) HKN.out HLL.out (fun e he => (HM.out.1 e he).mono) (by have := HM.out.2; simpa using this)
          clear hR9 hP9 hF9 D9 S5 HM HKN HLL
          generalize (ps ++ qs).length = kl at *
          go_wp2_with fail
          go_ret
          rw [HF.out]
          exact E.out
    · have HF : Hid (R0 = .bad c q) := hR0
      have hc0' : (c == 0) = false := by simpa using hc0
      clear hR0
      by_cases hb : beginsF (byteAt s q) = true
      · rcases begins_classes hb with hc | hc | hc | ⟨g1, g2, g3, g4⟩
        ·
          go_wp2_with fail
          refine (now_any s b q d L4 c q _ hs hq1 S4.out.rd).mono ?_
          rintro e w5 ⟨rfl, hg5⟩
          have S5 : Hid (St w s b d q L L4 (.slice (some ⟨g, 0, none⟩) ks.length cap) ps qs ks c q w5) := S4.out.quiet hg5
          clear S4 hg5
          rw [hc]
          go_wp2_with fail
          refine (ok_any s b q d L4 c q _ S5.out.rd).mono ?_
          rintro e w6 ⟨rfl, hw6⟩
          obtain rfl : w5 = w6 := hw6.symm
          rw [hc0']
          go_wp2_with fail
          refine (put_any s b q d L4 c q _ (ps ++ qs) ⟨4, 0, .slice (some ⟨g, 0, none⟩) ks.length cap, ks⟩ (by simp; omega) S5.out.rd S5.out.parts (S5.out.kidsAt hks0 4).1).mono ?_
          rintro e w9 ⟨rfl, L9, hR9, hP9, hF9⟩
          have D9 := S5.out.done hks0 hF9 hP9
          have E : Hid (RGives s b d i w L ps 1 1 (.bad c q) (.returned (.int .i64 (ps ++ qs).length)) w9) := ⟨L9, _, D9.1, D9.2.1, D9.2.2, ⟨_, rfl⟩, hR9, hc0, hiq, hq1, by simp; omega⟩
          clear hR9 hP9 hF9 D9 S5
          generalize (ps ++ qs).length = kl at *
          go_wp2_with fail
          go_ret
          rw [HF.out]
          exact E.out
        ·
          go_wp2_with fail
          refine (now_any s b q d L4 c q _ hs hq1 S4.out.rd).mono ?_
          rintro e w5 ⟨rfl, hg5⟩
          have S5 : Hid (St w s b d q L L4 (.slice (some ⟨g, 0, none⟩) ks.length cap) ps qs ks c q w5) := S4.out.quiet hg5
          clear S4 hg5
          rw [hc]
          go_wp2_with fail
          refine (ok_any s b q d L4 c q _ S5.out.rd).mono ?_
          rintro e w6 ⟨rfl, hw6⟩
          obtain rfl : w5 = w6 := hw6.symm
          rw [hc0']
          go_wp2_with fail
          refine (put_any s b q d L4 c q _ (ps ++ qs) ⟨4, 0, .slice (some ⟨g, 0, none⟩) ks.length cap, ks⟩ (by simp; omega) S5.out.rd S5.out.parts (S5.out.kidsAt hks0 4).1).mono ?_
          rintro e w9 ⟨rfl, L9, hR9, hP9, hF9⟩
          have D9 := S5.out.done hks0 hF9 hP9
          have E : Hid (RGives s b d i w L ps 1 1 (.bad c q) (.returned (.int .i64 (ps ++ qs).length)) w9) := ⟨L9, _, D9.1, D9.2.1, D9.2.2, ⟨_, rfl⟩, hR9, hc0, hiq, hq1, by simp; omega⟩
          clear hR9 hP9 hF9 D9 S5
          generalize (ps ++ qs).length = kl at *
          go_wp2_with fail
          go_ret
          rw [HF.out]
          exact E.out
        ·
          go_wp2_with fail
          refine (now_any s b q d L4 c q _ hs hq1 S4.out.rd).mono ?_
          rintro e w5 ⟨rfl, hg5⟩
          have S5 : Hid (St w s b d q L L4 (.slice (some ⟨g, 0, none⟩) ks.length cap) ps qs ks c q w5) := S4.out.quiet hg5
          clear S4 hg5
          rw [hc]
          go_wp2_with fail
          refine (ok_any s b q d L4 c q _ S5.out.rd).mono ?_
          rintro e w6 ⟨rfl, hw6⟩
          obtain rfl : w5 = w6 := hw6.symm
          rw [hc0']
          go_wp2_with fail
          refine (put_any s b q d L4 c q _ (ps ++ qs) ⟨4, 0, .slice (some ⟨g, 0, none⟩) ks.length cap, ks⟩ (by simp; omega) S5.out.rd S5.out.parts (S5.out.kidsAt hks0 4).1).mono ?_
          rintro e w9 ⟨rfl, L9, hR9, hP9, hF9⟩
          have D9 := S5.out.done hks0 hF9 hP9
          have E : Hid (RGives s b d i w L ps 1 1 (.bad c q) (.returned (.int .i64 (ps ++ qs).length)) w9) := ⟨L9, _, D9.1, D9.2.1, D9.2.2, ⟨_, rfl⟩, hR9, hc0, hiq, hq1, by simp; omega⟩
          clear hR9 hP9 hF9 D9 S5
          generalize (ps ++ qs).length = kl at *
          go_wp2_with fail
          go_ret
          rw [HF.out]
          exact E.out
        ·
          go_wp2_with fail
          refine (now_any s b q d L4 c q _ hs hq1 S4.out.rd).mono ?_
          rintro e w5 ⟨rfl, hg5⟩
          have S5 : Hid (St w s b d q L L4 (.slice (some ⟨g, 0, none⟩) ks.length cap) ps qs ks c q w5) := S4.out.quiet hg5
          clear S4 hg5
          go_wp2_with fail
          refine (ok_any s b q d L4 c q _ S5.out.rd).mono ?_
          rintro e w6 ⟨rfl, hw6⟩
          obtain rfl : w5 = w6 := hw6.symm
          rw [hc0']
          go_wp2_with fail
          refine (put_any s b q d L4 c q _ (ps ++ qs) ⟨4, 0, .slice (some ⟨g, 0, none⟩) ks.length cap, ks⟩ (by simp; omega) S5.out.rd S5.out.parts (S5.out.kidsAt hks0 4).1).mono ?_
          rintro e w9 ⟨rfl, L9, hR9, hP9, hF9⟩
          have D9 := S5.out.done hks0 hF9 hP9
          have E : Hid (RGives s b d i w L ps 1 1 (.bad c q) (.returned (.int .i64 (ps ++ qs).length)) w9) := ⟨L9, _, D9.1, D9.2.1, D9.2.2, ⟨_, rfl⟩, hR9, hc0, hiq, hq1, by simp; omega⟩
          clear hR9 hP9 hF9 D9 S5
          generalize (ps ++ qs).length = kl at *
          go_wp2_with fail
          go_ret
          rw [HF.out]
          exact E.out
      · obtain ⟨⟨g1, g2, g5⟩, g3 | ⟨g3, g4⟩⟩ := begins_others hb
        ·
          go_wp2_with fail
          refine (now_any s b q d L4 c q _ hs hq1 S4.out.rd).mono ?_
          rintro e w5 ⟨rfl, hg5⟩
          have S5 : Hid (St w s b d q L L4 (.slice (some ⟨g, 0, none⟩) ks.length cap) ps qs ks c q w5) := S4.out.quiet hg5
          clear S4 hg5
          go_wp2_with fail
          refine (ok_any s b q d L4 c q _ S5.out.rd).mono ?_
          rintro e w6 ⟨rfl, hw6⟩
          obtain rfl : w5 = w6 := hw6.symm
          rw [hc0']
          go_wp2_with fail
          refine (put_any s b q d L4 c q _ (ps ++ qs) ⟨4, 0, .slice (some ⟨g, 0, none⟩) ks.length cap, ks⟩ (by simp; omega) S5.out.rd S5.out.parts (S5.out.kidsAt hks0 4).1).mono ?_
          rintro e w9 ⟨rfl, L9, hR9, hP9, hF9⟩
          have D9 := S5.out.done hks0 hF9 hP9
          have E : Hid (RGives s b d i w L ps 1 1 (.bad c q) (.returned (.int .i64 (ps ++ qs).length)) w9) := ⟨L9, _, D9.1, D9.2.1, D9.2.2, ⟨_, rfl⟩, hR9, hc0, hiq, hq1, by simp; omega⟩
          clear hR9 hP9 hF9 D9 S5
          generalize (ps ++ qs).length = kl at *
          go_wp2_with fail
          go_ret
          rw [HF.out]
          exact E.out
        ·
          go_wp2_with fail
          refine (now_any s b q d L4 c q _ hs hq1 S4.out.rd).mono ?_
          rintro e w5 ⟨rfl, hg5⟩
          have S5 : Hid (St w s b d q L L4 (.slice (some ⟨g, 0, none⟩) ks.length cap) ps qs ks c q w5) := S4.out.quiet hg5
          clear S4 hg5
          go_wp2_with fail
          refine (ok_any s b q d L4 c q _ S5.out.rd).mono ?_
          rintro e w6 ⟨rfl, hw6⟩
          obtain rfl : w5 = w6 := hw6.symm
          rw [hc0']
          go_wp2_with fail
          refine (put_any s b q d L4 c q _ (ps ++ qs) ⟨4, 0, .slice (some ⟨g, 0, none⟩) ks.length cap, ks⟩ (by simp; omega) S5.out.rd S5.out.parts (S5.out.kidsAt hks0 4).1).mono ?_
          rintro e w9 ⟨rfl, L9, hR9, hP9, hF9⟩
          have D9 := S5.out.done hks0 hF9 hP9
          have E : Hid (RGives s b d i w L ps 1 1 (.bad c q) (.returned (.int .i64 (ps ++ qs).length)) w9) := ⟨L9, _, D9.1, D9.2.1, D9.2.2, ⟨_, rfl⟩, hR9, hc0, hiq, hq1, by simp; omega⟩
          clear hR9 hP9 hF9 D9 S5
          generalize (ps ++ qs).length = kl at *
          go_wp2_with fail
          go_ret
          rw [HF.out]
          exact E.out

end Go.Proofs.Yticmfgclkepgoaa
