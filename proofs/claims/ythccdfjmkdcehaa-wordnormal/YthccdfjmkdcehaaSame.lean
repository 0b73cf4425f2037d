/- Whether two lassos tell one word: the reference's function and the program's both answer sameF. -/
import Derived.Test.YthccdfjmkdcehaaAt
import Derived.Test.YthccdfjmkdcehaaShortest
namespace Go.Proofs.Ythccdfjmkdcehaa
open Go.RowKit
set_option linter.unusedVariables false

theorem sameF_no {h l h' l' : List Int} {m : Nat} (hm : m < h.length + h'.length + l.length + l'.length) (e : letF h l m ≠ letF h' l' m) : sameF h l h' l' = false := by
  rw [Bool.eq_false_iff]
  intro ha
  have := List.all_eq_true.1 ha m (List.mem_range.2 hm)
  simp at this
  exact e this

theorem sameF_yes {h l h' l' : List Int} (e : ∀ m, m < h.length + h'.length + l.length + l'.length → letF h l m = letF h' l' m) : sameF h l h' l' = true := by
  refine List.all_eq_true.2 fun m hm => ?_
  simp [e m (List.mem_range.1 hm)]

set_option maxHeartbeats 1000000 in
theorem sameR_any (a a' b b' : Option Addr) (c c' d d' : Nat) (h l h' l' : List Int) (w : World) (hh : Ints w a h) (hl : Ints w a' l) (gh : Ints w b h') (gl : Ints w b' l') (hm : h.length ≤ 60) (hm' : l.length ≤ 60) (gm : h'.length ≤ 60) (gm' : l'.length ≤ 60) (hl0 : 0 < l.length) (gl0 : 0 < l'.length) :
    Calls Try.prog 16 #[.agg #[.slice a h.length c, .slice a' l.length c'], .agg #[.slice b h'.length d, .slice b' l'.length d']] w fun e w' => e = .returned (.bool (sameF h l h' l')) ∧ Below w.heap.size w w' := by
  have HC : Hid (∀ (W : World) (n : Nat), Below w.heap.size w W → n ≤ 400 → Calls Try.prog 14 #[.agg #[.slice a h.length c, .slice a' l.length c'], .int .i64 n] W fun e w' => e = .returned (.int .i64 (letF h l n)) ∧ Below W.heap.size W w') :=
    fun W n hW hn => at_any n a a' c c' h l W (hh.later hW) (hl.later hW) hm hm' (by omega) hl0
  have HD : Hid (∀ (W : World) (n : Nat), Below w.heap.size w W → n ≤ 400 → Calls Try.prog 14 #[.agg #[.slice b h'.length d, .slice b' l'.length d'], .int .i64 n] W fun e w' => e = .returned (.int .i64 (letF h' l' n)) ∧ Below W.heap.size W w') :=
    fun W n hW hn => at_any n b b' d d' h' l' W (gh.later hW) (gl.later hW) gm gm' (by omega) gl0
  clear hh hl gh gl
  have hb0 : ∀ o o', Below w.heap.size w ((w.alloc o).alloc o') := fun o o' => ((Below.refl _ _).alloc (Nat.le_refl _) o).alloc (by simp) o'
  go_enter Try.func16, Try.ntmps16
  go_wp2
  go_loopw [6] (fun i wr => ∃ k : Nat, k ≤ h.length + h'.length + l.length + l'.length ∧ i = .int .i64 k ∧ (∀ m, m < k → letF h l m = letF h' l' m) ∧ Below (w.heap.size + 2) ((w.alloc (.cells #[.slice a h.length c, .slice a' l.length c'] 30)).alloc (.cells #[.slice b h'.length d, .slice b' l'.length d'] 30)) wr) (fun i _ => h.length + h'.length + l.length + l'.length - (intOf i).toNat)
  case atStart => exact ⟨0, by omega, rfl, fun j hj => by omega, Below.refl _ _⟩
  case round =>
    obtain ⟨k, hk, rfl, hg, hbel⟩ := hrel
    have HG : Hid (∀ m, m < k → letF h l m = letF h' l' m) := hg
    clear hg
    have HB : Hid (Below w.heap.size w wr) := (hb0 _ _).trans (hbel.mono (by omega))
    have c0 : wr.cell? ⟨w.heap.size, 0, none⟩ = some (.slice a h.length c) := by rw [hbel.cell (by simp)]; simp
    have c1 : wr.cell? ⟨w.heap.size, 1, none⟩ = some (.slice a' l.length c') := by rw [hbel.cell (by simp)]; simp
    have e0 : wr.cell? ⟨w.heap.size + 1, 0, none⟩ = some (.slice b h'.length d) := by rw [hbel.cell (by simp)]; simp
    have e1 : wr.cell? ⟨w.heap.size + 1, 1, none⟩ = some (.slice b' l'.length d') := by rw [hbel.cell (by simp)]; simp
    have hsz : w.heap.size + 1 < wr.heap.size := by have := hbel.size; simp at this; omega
    have HB1 : Hid (Below (w.heap.size + 2) ((w.alloc (.cells #[.slice a h.length c, .slice a' l.length c'] 30)).alloc (.cells #[.slice b h'.length d, .slice b' l'.length d'] 30)) wr) := hbel
    clear hbel
    by_cases hlt : k < h.length + h'.length + l.length + l'.length
    · go_wp2_with fail
      refine (HC.out _ k HB.out (by omega)).mono ?_
      rintro e w1 ⟨rfl, hb1⟩
      have e01 : w1.cell? ⟨w.heap.size + 1, 0, none⟩ = some (.slice b h'.length d) := cell_later hb1 e0
      have e11 : w1.cell? ⟨w.heap.size + 1, 1, none⟩ = some (.slice b' l'.length d') := cell_later hb1 e1
      have HB2 : Hid (Below w.heap.size w w1) := HB.out.trans (hb1.mono (by omega))
      have HB3 : Hid (Below (w.heap.size + 2) ((w.alloc (.cells #[.slice a h.length c, .slice a' l.length c'] 30)).alloc (.cells #[.slice b h'.length d, .slice b' l'.length d'] 30)) w1) := HB1.out.trans (hb1.mono (by omega))
      have hs1 : w.heap.size + 1 < w1.heap.size := Nat.lt_of_lt_of_le hsz hb1.size
      clear hb1
      go_wp2_with fail
      refine (HD.out _ k HB2.out (by omega)).mono ?_
      rintro e w2 ⟨rfl, hb2⟩
      have HB4 : Hid (Below w.heap.size w w2) := HB2.out.trans (hb2.mono (by omega))
      have HB5 : Hid (Below (w.heap.size + 2) ((w.alloc (.cells #[.slice a h.length c, .slice a' l.length c'] 30)).alloc (.cells #[.slice b h'.length d, .slice b' l'.length d'] 30)) w2) := HB3.out.trans (hb2.mono (by omega))
      clear hb2
      by_cases he : letF h l k = letF h' l' k
      · have HE : Hid (letF h l k = letF h' l' k) := he
        have he' : (letF h l k != letF h' l' k) = false := by simpa using he
        clear he
        go_wp2
        go_roundw
        case rel =>
          refine ⟨k + 1, by omega, by go_num, fun m hmk => ?_, HB5.out⟩
          by_cases hmk' : m = k
          · rw [hmk']; exact HE.out
          · exact HG.out m (by omega)
        case measure => simp [intOf]; omega
      · have he' : (letF h l k != letF h' l' k) = true := by simpa using he
        go_wp2
        go_ret
        exact ⟨ret_bool (sameF_no hlt he).symm, HB4.out⟩
    · go_wp2
      go_ret
      exact ⟨ret_bool (sameF_yes fun m hmm => HG.out m (by omega)).symm, HB.out⟩

end Go.Proofs.Ythccdfjmkdcehaa
