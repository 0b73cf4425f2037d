/- What holds while the reference's reader gathers the numbers of parts in a list of its own. -/
import Derived.Test.YtepldeogcoigkaaDoorROne
namespace Go.Proofs.YtepldeogcoigkaaDoor
open Go.RowKit
set_option linter.unusedVariables false

/-- While numbers ks are gathered at v: the reader is at q, with code c. -/
structure St (w0 : World) (s : ByteArray) (b d q : Nat) (L0 L v : Value) (ps qs : List PartR) (ks : List Int) (c : Int) (a : Nat) (w : World) : Prop where
  fr : Fr w0 w b L0 L
  parts : Parts w b L (ps ++ qs)
  new : New w0.heap.size w qs
  rd : RRd w b s q d L c a
  own : w.ownsRow w0.heap.size 3 1 v ks.length (ks.map (Value.int .i64))
  apart : ∀ g, v.ownBlock = some g → L.ownBlock ≠ some g
  kids : ∀ p ∈ ps ++ qs, KidsAt (fun g => v.ownBlock ≠ some g) w p
  hb : b < w0.heap.size

section
variable {w0 : World} {s : ByteArray} {b d q : Nat} {L0 L v : Value} {ps qs : List PartR} {ks : List Int} {c : Int} {a : Nat} {w w' : World}

theorem St.call {L' : Value} {qs' : List PartR} {q' d' : Nat} {c' : Int} {a' : Nat} (h : St w0 s b d q L0 L v ps qs ks c a w) (hF : Fr w w' b L L') (hP : Parts w' b L' ((ps ++ qs) ++ qs')) (hN : New w.heap.size w' qs') (hR : RRd w' b s q' d' L' c' a') :
    St w0 s b d' q' L0 L' v ps (qs ++ qs') ks c' a' w' := by
  have hv : ∀ g, v.ownBlock = some g → w0.heap.size ≤ g ∧ g < w.heap.size := h.own.lt
  refine ⟨h.fr.trans hF, by rw [← List.append_assoc]; exact hP, ?_, hR, ⟨h.own.1, ?_⟩, ?_, ?_, h.hb⟩
  · intro p hp
    rcases List.mem_append.1 hp with hp | hp
    · exact (h.new.step h.parts hF (Nat.le_refl _)) p hp
    · exact (hN p hp).kept fun g hg _ => ⟨Nat.le_trans h.fr.size hg, rfl⟩
  · rcases h.own.2 with hn | ⟨g, cap, cur, e, hg, hh, r⟩
    · exact .inl hn
    · have h1 := hv g (by rw [e]; rfl)
      refine .inr ⟨g, cap, cur, e, hg, ?_, r⟩
      rw [hF.block g h1.2 (by have := h.hb; omega) (h.apart g (by rw [e]; rfl))]
      exact hh
  · intro g hg
    rcases hF.new with e | ⟨g', e, hg'⟩
    · rw [e]; exact h.apart g hg
    · rw [e]; have := hv g hg; simp; omega
  · intro p hp
    rw [← List.append_assoc] at hp
    rcases List.mem_append.1 hp with hp | hp
    · exact h.parts.fr_kids hF hp (h.kids p hp)
    · exact (hN p hp).kept fun g hg _ => ⟨fun e => by have := hv g e; omega, rfl⟩

theorem St.quiet (h : St w0 s b d q L0 L v ps qs ks c a w) (hg : w.grownBy w' none) : St w0 s b d q L0 L v ps qs ks c a w' := by
  have := h.call (qs' := []) (Fr.grown' hg) (by rw [List.append_nil]; exact h.parts.kept' hg) (fun p hp => by simp at hp) (h.rd.kept hg (by simp))
  rwa [List.append_nil] at this

theorem St.set1 (h : St w0 s b d q L0 L v ps qs ks c a w) (j : Nat) {x : Int} (hx : x = j) : St w0 s b d j L0 L v ps qs ks c a (w.setCell ⟨b, 1, none⟩ (.int .i64 x)) := by
  have := h.call (qs' := []) (Fr.set w b 1 (.int .i64 x) L) (by rw [List.append_nil]; exact h.parts.set 1 _) (fun p hp => by simp at hp) (h.rd.set1 j hx)
  rwa [List.append_nil] at this

/-- The first number. -/
theorem St.start {k : Int} (hF : Fr w0 w b L0 L) (hP : Parts w b L (ps ++ qs)) (hN : New w0.heap.size w qs) (hR : RRd w b s q d L c a) (hb : b < w0.heap.size) :
    St w0 s b d q L0 L (.slice (some ⟨w.heap.size, 0, none⟩) 1 1) ps qs [k] c a (w.alloc (.cells #[.int .i64 k] 3)) := by
  have hg : w.grownBy (w.alloc (.cells #[.int .i64 k] 3)) none := World.grownBy_alloc _ _ _
  refine ⟨hF.trans (Fr.grown' hg), hP.kept' hg, hN.step hP (Fr.grown' hg) (Nat.le_refl _), hR.kept hg (by simp), ⟨rfl, .inr ⟨w.heap.size, 1, _, rfl, hF.size, heap_alloc_new w _, by simp, by unfold maxLen; omega, rfl, by simp⟩⟩, ?_, ?_, hb⟩
  · intro g hg e
    simp [Value.ownBlock] at hg
    have := hP.block g e
    omega
  · intro p hp
    exact (hP.at_ p hp).kept fun g _ hlt => ⟨by simp [Value.ownBlock]; omega, hg.block g hlt (by simp)⟩

/-- One number more. -/
theorem St.push {k : Int} {v' : Value} (h : St w0 s b d q L0 L v ps qs ks c a w) (hn : 0 < ks.length) (ho : w'.ownsRow w0.heap.size 3 1 v' (ks.length + 1) (ks.map (Value.int .i64) ++ [Value.int .i64 k]))
    (hg : (w.alloc (.cells #[.int .i64 k] 3)).grownBy w' v.ownBlock) (hat : v'.ownBlock = v.ownBlock ∨ v'.ownBlock = some (w.heap.size + 1)) : St w0 s b d q L0 L v' ps qs (ks ++ [k]) c a w' := by
  have hsz : (w.alloc (.cells #[.int .i64 k] 3)).heap.size = w.heap.size + 1 := by simp
  have hstep : ∀ g, g < w.heap.size → v.ownBlock ≠ some g → w'.heap[g]? = w.heap[g]? := fun g hq hne =>
    (hg.block g (by omega) (Ne.symm hne)).trans (Below.heap_alloc _ _ _ hq)
  have hnot : ∀ g, g < w.heap.size → v.ownBlock ≠ some g → v'.ownBlock ≠ some g := by
    intro g hlt hne
    rcases hat with e | e
    · rw [e]; exact hne
    · rw [e]; simp; omega
  obtain ⟨g0, cap0, hv0, hg0, hlt0⟩ := h.own.form hn
  have hvb : v.ownBlock = some g0 := by rw [hv0]; rfl
  have hbl : ∀ g, g < w.heap.size → g ≠ g0 → w'.heap[g]? = w.heap[g]? := fun g h1 h2 => hstep g h1 (by rw [hvb]; simp; omega)
  refine ⟨?_, ⟨?_, ?_⟩, ?_, ?_, by simpa using ho, ?_, ?_, h.hb⟩
  · have h1 := h.fr.trans (Fr.grown' (b := b) (L := L) (World.grownBy_alloc w (.cells #[.int .i64 k] 3) none))
    rw [hvb] at hg
    exact h1.own hg hg0
  · refine ⟨h.parts.own.1, ?_⟩
    rcases h.parts.own.2 with hn | ⟨g, cap, cur, e, h1, hh, r⟩
    · exact .inl hn
    · refine .inr ⟨g, cap, cur, e, h1, ?_, r⟩
      rw [hbl g (Array.getElem?_eq_some_iff.1 hh).1 (fun e' => h.apart g0 hvb (by rw [e, ← e']; rfl))]
      exact hh
  · intro p hp
    exact ((h.parts.at_ p hp).and (h.kids p hp)).kept fun g ⟨h1, h2⟩ hlt => ⟨h1, hstep g hlt h2⟩
  · intro p hp
    exact ((h.new p hp).and (h.kids p (List.mem_append_right _ hp))).kept fun g ⟨h1, h2⟩ hlt => ⟨h1, hstep g hlt h2⟩
  · have hne : b ≠ g0 := by have := h.hb; omega
    exact (hbl b h.rd.lt hne).trans h.rd
  · intro g hgv e
    have := h.parts.block g e
    rcases hat with e' | e'
    · rw [e'] at hgv
      exact h.apart g hgv e
    · rw [e'] at hgv
      simp at hgv
      omega
  · intro p hp
    exact (h.kids p hp).kept fun g h1 hlt => ⟨hnot g hlt h1, hstep g hlt h1⟩

theorem St.kidsAt (h : St w0 s b d q L0 L v ps qs ks c a w) (hn : 0 < ks.length) (kind : Int) : KidsAt (fun g => b < g ∧ L.ownBlock ≠ some g) w ⟨kind, 0, v, ks⟩ ∧ KidsAt (fun g => w0.heap.size ≤ g) w ⟨kind, 0, v, ks⟩ := by
  obtain ⟨g, cap, rfl, hg, hlt⟩ := h.own.form hn
  have hc : ∀ k, k < ks.length → w.cell? ⟨g, k, none⟩ = some (.int .i64 (ks.getD k 0)) := by
    intro k hk
    have := h.own.cellAt k (by omega)
    rw [this]
    simp [List.getD, hk]
  exact ⟨⟨⟨_, _, _, rfl⟩, .inr ⟨g, cap, ⟨by have := h.hb; omega, h.apart g rfl⟩, rfl, hc⟩⟩, ⟨⟨_, _, _, rfl⟩, .inr ⟨g, cap, hg, rfl, hc⟩⟩⟩

/-- The list is put as a part. -/
theorem St.done {L' : Value} {kind : Int} (h : St w0 s b d q L0 L v ps qs ks c a w) (hn : 0 < ks.length) (hF : Fr w w' b L L') (hP : Parts w' b L' ((ps ++ qs) ++ [⟨kind, 0, v, ks⟩])) :
    Fr w0 w' b L0 L' ∧ Parts w' b L' (ps ++ (qs ++ [⟨kind, 0, v, ks⟩])) ∧ New w0.heap.size w' (qs ++ [⟨kind, 0, v, ks⟩]) := by
  refine ⟨h.fr.trans hF, by rw [← List.append_assoc]; exact hP, ?_⟩
  intro p hp
  rcases List.mem_append.1 hp with hp | hp
  · exact (h.new.step h.parts hF (Nat.le_refl _)) p hp
  · have : p = ⟨kind, 0, v, ks⟩ := by simpa using hp
    subst this
    obtain ⟨k1, k2⟩ := h.kidsAt hn kind
    exact (k2.and k1).kept fun g ⟨h1, h2, h3⟩ hlt => ⟨h1, hF.block g hlt (by omega) h3⟩
end

/-- What is left to read; nothing behind a fault. -/
def leftOf (w : World) (b n : Nat) : Nat := match w.cell? ⟨b, 4, none⟩ with | some v => if intOf v = 0 then n + 1 - placeOf w b else 0 | none => 0
theorem RRd.left {w : World} {b : Nat} {s : ByteArray} {i d : Nat} {L : Value} {a : Nat} (h : RRd w b s i d L 0 a) (n : Nat) : leftOf w b n = n + 1 - i := by simp [leftOf, h.c4, h.place, intOf]
theorem RRd.left_bad {w : World} {b : Nat} {s : ByteArray} {i d : Nat} {L : Value} {c : Int} {a : Nat} (h : RRd w b s i d L c a) (hc : c ≠ 0) (n : Nat) : leftOf w b n = 0 := by simp [leftOf, h.c4, intOf, hc]

/-- Which bytes begin a part. -/
theorem begins_classes {c : Nat} (h : beginsF c = true) : c = 48 ∨ c = 49 ∨ c = 40 ∨ (((c : Int) == 48) = false ∧ ((c : Int) == 49) = false ∧ (97 : Int) ≤ (c : Int) ∧ (c : Int) ≤ 100) := by
  simp [beginsF] at h
  rcases h with ((h | h) | h) | ⟨h1, h2⟩
  · exact .inl h
  · exact .inr (.inl h)
  · exact .inr (.inr (.inl h))
  · exact .inr (.inr (.inr ⟨by simp; omega, by simp; omega, by omega, by omega⟩))
theorem begins_others {c : Nat} (h : ¬ beginsF c = true) : (((c : Int) == 48) = false ∧ ((c : Int) == 49) = false ∧ ((c : Int) == 40) = false) ∧ (decide ((97 : Int) ≤ (c : Int)) = false ∨ ((97 : Int) ≤ (c : Int) ∧ decide ((c : Int) ≤ 100) = false)) := by
  simp [beginsF] at h
  refine ⟨⟨by simp; omega, by simp; omega, by simp; omega⟩, ?_⟩
  by_cases h9 : 97 ≤ c
  · exact .inr ⟨by omega, by simp; omega⟩
  · exact .inl (by simp; omega)

end Go.Proofs.YtepldeogcoigkaaDoor
