/- Whether a word is one of a text's: the program's answer and the reference's. -/
import Derived.Test.YtepldeogcoigkaaDoorMay
namespace Go.Proofs.YtepldeogcoigkaaDoor
open Go.RowKit
set_option linter.unusedVariables false

theorem Means.ahead {ps : List PartR} {k : Nat} {m : Sense} (h : Means ps k m) : Ahead m := by
  induction h with
  | none k p h hk => rintro z i j hi h; exact h.elim
  | empty k p h hk => rintro z i j hi rfl; exact ⟨Nat.le_refl _, hi⟩
  | letter k p h hk => rintro z i j hi ⟨h1, h2, rfl⟩; omega
  | either k p qs ms h hk h0 hq hl _ ih => rintro z i j hi ⟨r, hr, h⟩; exact ih r hr z i j hi h
  | row k p qs ms h hk h0 hq hl _ ih => exact rowOf_ahead ih
  | star k p q m h hk hq _ ih => exact star_ahead ih

theorem ends_any {ps : List PartR} {k : Nat} {m : Sense} (h : Means ps k m) (L : Value) (a : Option Addr) (cap : Nat) (z : List Int) (N : Nat) (hN : N = z.length + 1) (hn : z.length ≤ 60) (hps : ps.length ≤ 13000) :
    ∀ (W : World) (gf : Nat) (hh : Nat → Bool), PL W L ps → Ints W a z → BAt W gf hh N → Calls Tryd.prog 14 #[L, .int .i64 k, .slice a z.length cap, .slice (some ⟨gf, 0, none⟩) N N] W (Ended z N W m hh) := by
  induction h with
  | none k p h hk => intro W gf hh hL hz hf; exact ends_none ps L k p h hk a cap z N hN hn gf hh W hL hps
  | empty k p h hk => intro W gf hh hL hz hf; exact ends_empty ps L k p h hk a cap z N hN hn gf hh W hL hps hf
  | letter k p h hk => intro W gf hh hL hz hf; exact ends_letter ps L k p h hk a cap z N hN hn gf hh W hL hps hf hz
  | either k p qs ms h hk h0 hq hl hm ih =>
    intro W gf hh hL hz hf
    exact ends_either ps L k p qs ms h hk h0.1 hq hl h0.2 a cap z N hN hn gf hh W hL hps hf fun t ht W' gf' h' hg hb => ih t ht W' gf' h' (hL.kept hg) (hz.grown hg) hb
  | row k p qs ms h hk h0 hq hl hm ih =>
    intro W gf hh hL hz hf
    exact ends_row ps L k p qs ms h hk h0.1 hq hl h0.2 a cap z N hN hn gf hh W hL hps hf (fun t ht => (hm t ht).ahead) fun t ht W' gf' h' hg hb => ih t ht W' gf' h' (hL.kept hg) (hz.grown hg) hb
  | star k p q m h hk hq hm ih =>
    intro W gf hh hL hz hf
    exact ends_star ps L k p q m h hk hq a cap z N hN hn gf hh W hL hps hf hm.ahead fun W' gf' h' hg hb => ih W' gf' h' (hL.kept hg) (hz.grown hg) hb

theorem Parts.pl {w : World} {b : Nat} {L : Value} {ps : List PartR} (h : Parts w b L ps) : PL w L ps := by
  refine ⟨⟨h.own.1, ?_⟩, fun p hp => (h.at_ p hp).kept fun g _ _ => ⟨trivial, rfl⟩⟩
  rcases h.own.2 with h1 | ⟨g, cap, cur, h1, h2, h3⟩
  · exact .inl h1
  · exact .inr ⟨g, cap, cur, h1, Nat.zero_le _, h3⟩

open Classical in
/-- What the reference answers of a word. -/
noncomputable def saysB (z : List Int) (m : Sense) : Bool := decide (m z 0 z.length)

open Classical in
theorem saysB_iff (z : List Int) (m : Sense) : saysB z m = true ↔ m z 0 z.length := by
  unfold saysB
  exact decide_eq_true_iff

set_option maxRecDepth 100000 in
set_option maxHeartbeats 800000 in
theorem rhas_any {ps : List PartR} {k : Nat} {m : Sense} (h : Means ps k m) (hk : k + 1 = ps.length) (L : Value) (a : Option Addr) (cap : Nat) (z : List Int) (hn : z.length ≤ 60) (hps : ps.length ≤ 13000) (W : World) (hL : PL W L ps) (hz : Ints W a z) :
    Calls Tryd.prog 7 #[L, .slice a z.length cap] W fun e w' => e = .returned (.bool (saysB z m)) ∧ W.grownBy w' none := by
  obtain ⟨g, capL, rfl, _, _⟩ := hL.own.form (by omega)
  obtain ⟨r, hr⟩ : ∃ r, saysB z m = r := ⟨_, rfl⟩
  rw [hr]
  have HR : Hid (saysB z m = r) := hr
  clear hr
  have hmk := bmake W (z.length + 1) (by omega)
  have e0 : ((z.length + 1 : Nat) : Int) = (z.length : Int) + 1 := by omega
  rw [e0] at hmk
  have B0 : Hid (BAt (W.alloc (.cells (Array.replicate (z.length + 1) (Value.bool false)) 4)) W.heap.size (fun _ => false) (z.length + 1)) := BAt.made W (z.length + 1)
  have B1 : Hid (BAt ((W.alloc (.cells (Array.replicate (z.length + 1) (Value.bool false)) 4)).setCell ⟨W.heap.size, 0, none⟩ (.bool true)) W.heap.size (fun i => decide (i = 0)) (z.length + 1)) := (B0.out.set 0 true).ext fun i hi => by by_cases e : i = 0 <;> simp [e]
  have G1 : Hid (W.grownBy ((W.alloc (.cells (Array.replicate (z.length + 1) (Value.bool false)) 4)).setCell ⟨W.heap.size, 0, none⟩ (.bool true)) none) := grown_new (World.grownBy_alloc _ _ _) (grown_set _ _ _) (Nat.le_refl _)
  have C : Hid (Calls Tryd.prog 14 #[.slice (some ⟨g, 0, none⟩) ps.length capL, .int .i64 k, .slice a z.length cap, .slice (some ⟨W.heap.size, 0, none⟩) (z.length + 1) (z.length + 1)] ((W.alloc (.cells (Array.replicate (z.length + 1) (Value.bool false)) 4)).setCell ⟨W.heap.size, 0, none⟩ (.bool true)) (Ended z (z.length + 1) ((W.alloc (.cells (Array.replicate (z.length + 1) (Value.bool false)) 4)).setCell ⟨W.heap.size, 0, none⟩ (.bool true)) m (fun i => decide (i = 0)))) :=
    ends_any h _ a cap z (z.length + 1) rfl hn hps _ _ _ (hL.kept G1.out) (hz.grown G1.out) B1.out
  have oc := B0.out.cell (i := 0) (by omega)
  have ofz := B0.out.fz 0
  have ek : ((ps.length : Int) - 1) = (k : Int) := by omega
  clear hL hz B0 B1 e0
  go_enter Tryd.func7, Tryd.ntmps7
  go_wp2_with fail
  have ew : W.alloc (.cells ((Array.replicate (z.length + 1) (Value.bool false)).setIfInBounds 0 (.bool true)) 4) = (W.alloc (.cells (Array.replicate (z.length + 1) (Value.bool false)) 4)).setCell ⟨W.heap.size, 0, none⟩ (.bool true) := by go_simp
  rw [ew]
  refine C.out.mono ?_
  rintro e w2 ⟨gx, hx, rfl, hbx, hgx, hg2, hj⟩
  have G2 : Hid (W.grownBy w2 none) := grown_trans G1.out hg2
  have xc := hbx.cell (i := z.length) (by omega)
  have xf := hbx.fz z.length
  have hv : hx z.length = saysB z m := by
    have := hj z.length (by omega)
    refine Bool.eq_iff_iff.2 (this.trans ?_)
    rw [saysB_iff]
    constructor
    · rintro ⟨i, _, h1, h2⟩
      have : i = 0 := by simpa using h1
      subst this
      exact h2
    · intro h
      exact ⟨0, by omega, by simp, h⟩
  rw [hv, HR.out] at xc
  have hzz : (z.length : Int) < (z.length : Int) + 1 := by omega
  clear hbx hg2 hj C G1 hv
  go_wp2_with fail
  go_ret
  exact ⟨rfl, G2.out⟩

/-- A fault's number is not 0. -/
def NZ (S : Nat → Nat → Res) : Prop := ∀ i d c j, S i d = .bad c j → c ≠ 0
section
variable {s : ByteArray}
theorem nz_part {W : Nat → Nat → Res} (hW : NZ W) : NZ (partS s W) := by
  intro i d c j h
  unfold partS at h
  split at h
  · cases h; decide
  · split at h
    · unfold bracketS at h
      split at h
      · cases h; decide
      · split at h
        · rename_i c' j' hw
          cases h
          exact hW _ _ _ _ hw
        · split at h
          · cases h
          · cases h; decide
    · split at h
      · cases h
      · split at h
        · cases h
        · cases h
theorem nz_one {P : Nat → Nat → Res} (hP : NZ P) : NZ (oneS s P) := by
  intro i d c j h
  unfold oneS at h
  split at h
  · rename_i c' j' hw
    cases h
    exact hP _ _ _ _ hw
  · rename_i m' j' hw
    obtain ⟨m2, j2, h2⟩ := starL_good (s := s) (s.size + 1) m' j'
    rw [h2] at h
    cases h
theorem nz_rowL {O : Nat → Nat → Res} (hO : NZ O) (d : Nat) : ∀ (k : Nat) (ms : List Sense) (j : Nat) (c : Int) (j' : Nat), rowL s O d k ms j = .bad c j' → c ≠ 0
  | 0, ms, j, c, j', h => by cases h; decide
  | k + 1, ms, j, c, j', h => by
    unfold rowL at h
    split at h
    · split at h
      · rename_i c2 j2 hw
        cases h
        exact hO _ _ _ _ hw
      · exact nz_rowL hO d k _ _ _ _ h
    · cases h
theorem nz_row {O : Nat → Nat → Res} (hO : NZ O) : NZ (rowS s O) := by
  intro i d c j h
  unfold rowS at h
  split at h
  · rename_i c2 j2 hw
    cases h
    exact hO _ _ _ _ hw
  · exact nz_rowL hO _ _ _ _ _ _ h
theorem nz_eitherL {O : Nat → Nat → Res} (hO : NZ O) (d : Nat) : ∀ (k : Nat) (ms : List Sense) (j : Nat) (c : Int) (j' : Nat), eitherL s O d k ms j = .bad c j' → c ≠ 0
  | 0, ms, j, c, j', h => by cases h; decide
  | k + 1, ms, j, c, j', h => by
    unfold eitherL at h
    split at h
    · split at h
      · rename_i c2 j2 hw
        cases h
        exact hO _ _ _ _ hw
      · exact nz_eitherL hO d k _ _ _ _ h
    · cases h
theorem nz_either {O : Nat → Nat → Res} (hO : NZ O) : NZ (eitherS s O) := by
  intro i d c j h
  unfold eitherS at h
  split at h
  · rename_i c2 j2 hw
    cases h
    exact hO _ _ _ _ hw
  · exact nz_eitherL hO _ _ _ _ _ _ h
theorem nz_whole : ∀ n, NZ (wholeF s n)
  | 0 => fun _ _ _ _ h => by cases h; decide
  | n + 1 => nz_either (nz_row (nz_one (nz_part (nz_whole n))))
theorem parseR_nz {c : Int} {j : Nat} (h : parseR s = .bad c j) : c ≠ 0 := by
  unfold parseR at h
  split at h
  · cases h; decide
  · split at h
    · rename_i c2 j2 hw
      cases h
      exact nz_whole _ _ _ _ _ hw
    · split at h
      · cases h; decide
      · cases h
end

theorem mayF_ok {z : List Int} (h : mayF 4 z = 0) : z.length ≤ 60 := by
  unfold mayF at h
  rw [if_neg (by omega)] at h
  split at h
  · cases h
  · omega

theorem grown_of_below {w w' : World} (h : Below w.heap.size w w') : w.grownBy w' none := ⟨h.os, h.tape, h.output, h.size, fun k hk _ => h.block k hk⟩
theorem below_of_grown {w w' : World} (h : w.grownBy w' none) : Below w.heap.size w w' := ⟨h.os, h.tape, h.output, h.size, fun k hk => h.block k hk (by simp)⟩

set_option maxHeartbeats 800000 in
theorem has_bad (s : ByteArray) (a : Option Addr) (cap : Nat) (z : List Int) (w : World) (hm : s.size ≤ maxLen) {c : Int} {j : Nat} (hR : parseR s = .bad c j) :
    Calls Tryd.prog 4 #[.string s, .slice a z.length cap] w fun e w' => e = .returned (.tuple #[.bool false, .int .i64 4]) ∧ w.grownBy w' none := by
  have hc := parseR_nz hR
  have hc' : (c == 0) = false := by simpa using hc
  have P : Hid (Calls Tryd.prog 8 #[.string s] w (Parsed w (.bad c j))) := by
    have := parse_any s w hm
    rw [hR] at this
    exact this
  clear hR hm
  go_enter Tryd.func4, Tryd.ntmps4
  go_wp2_with fail
  refine P.out.mono ?_
  rintro e w1 ⟨hb, rfl⟩
  have G : Hid (w.grownBy (w1.alloc (.cells #[.int .i64 c, .int .i64 j] 28)) none) := grown_trans (grown_of_below hb) (World.grownBy_alloc _ _ _)
  clear hb P
  go_wp2_with fail
  first | (go_ret2; exact ⟨rfl, G.out⟩) | exact bodyPost_ret (v := .tuple #[.bool false, .int .i64 4]) (by simp [results, Tryd.results4, go_sem]) rfl ⟨rfl, G.out⟩

set_option maxHeartbeats 800000 in
theorem has_may (s : ByteArray) (a : Option Addr) (cap : Nat) (z : List Int) (w : World) (hm : s.size ≤ maxLen) (hz : Ints w a z) (hmz : z.length ≤ maxLen) {m : Sense} {j : Nat} (hR : parseR s = .good m j) (hmay : mayF 4 z ≠ 0) :
    Calls Tryd.prog 4 #[.string s, .slice a z.length cap] w fun e w' => e = .returned (.tuple #[.bool false, .int .i64 (mayF 4 z)]) ∧ w.grownBy w' none := by
  have hmay' : (mayF 4 z == 0) = false := by simpa using hmay
  have P : Hid (Calls Tryd.prog 8 #[.string s] w (Parsed w (.good m j))) := by
    have := parse_any s w hm
    rw [hR] at this
    exact this
  have M : Hid (∀ W, w.grownBy W none → Calls Tryd.prog 9 #[.int .i64 4, .slice a z.length cap] W fun e w' => e = .returned (.int .i64 (mayF 4 z)) ∧ w' = W) := fun W hg => may_any 4 a cap z W (hz.grown hg) hmz
  clear hR hm hz
  generalize mayF 4 z = q at *
  go_enter Tryd.func4, Tryd.ntmps4
  go_wp2_with fail
  refine P.out.mono ?_
  rintro e w1 ⟨hb, v, rfl, hl⟩
  have G : Hid (w.grownBy (w1.alloc (.cells #[.int .i64 0, .int .i64 0] 28)) none) := grown_trans (grown_of_below hb) (World.grownBy_alloc _ _ _)
  clear hb P hl
  go_wp2_with fail
  refine (M.out _ G.out).mono ?_
  rintro e w2 ⟨rfl, hw2⟩
  subst hw2
  go_wp2_with fail
  first | (go_ret2; exact ⟨rfl, G.out⟩) | exact bodyPost_ret (v := .tuple #[.bool false, .int .i64 q]) (by simp [results, Tryd.results4, go_sem]) rfl ⟨rfl, G.out⟩

set_option maxHeartbeats 800000 in
theorem has_good (s : ByteArray) (a : Option Addr) (cap : Nat) (z : List Int) (w : World) (hm : s.size ≤ maxLen) (hz : Ints w a z) (hT : TabAt w) {m : Sense} {j : Nat} (hR : parseR s = .good m j) (hmay : mayF 4 z = 0) :
    Calls Tryd.prog 4 #[.string s, .slice a z.length cap] w fun e w' => e = .returned (.tuple #[.bool (saysB z m), .int .i64 0]) ∧ w.grownBy w' none := by
  have hn := mayF_ok hmay
  obtain ⟨r, hr⟩ : ∃ r, saysB z m = r := ⟨_, rfl⟩
  rw [hr]
  have HR : Hid (saysB z m = r) := hr
  clear hr
  have P : Hid (Calls Tryd.prog 8 #[.string s] w (Parsed w (.good m j))) := by
    have := parse_any s w hm
    rw [hR] at this
    exact this
  have M : Hid (∀ W, w.grownBy W none → Calls Tryd.prog 9 #[.int .i64 4, .slice a z.length cap] W fun e w' => e = .returned (.int .i64 0) ∧ w' = W) := fun W hg => by
    have := may_any 4 a cap z W (hz.grown hg) (by unfold maxLen; omega)
    rw [hmay] at this
    exact this
  have HZ : Hid (Ints w a z) := hz
  have HT : Hid (TabAt w) := hT
  clear hR hm hz hT hmay
  go_enter Tryd.func4, Tryd.ntmps4
  go_wp2_with fail
  refine P.out.mono ?_
  rintro e w1 ⟨hb, v, rfl, hl⟩
  have G : Hid (w.grownBy (w1.alloc (.cells #[.int .i64 0, .int .i64 0] 28)) none) := grown_trans (grown_of_below hb) (World.grownBy_alloc _ _ _)
  have S : Hid (Calls Tryd.prog 10 #[v, .slice a z.length cap] (w1.alloc (.cells #[.int .i64 0, .int .i64 0] 28)) (Spans z (w1.alloc (.cells #[.int .i64 0, .int .i64 0] 28)) m)) :=
    spanOf_any hl a cap z hn _ (World.grownBy_alloc _ _ _) (HT.out.kept G.out (by simp)) (HZ.out.grown G.out)
  obtain ⟨t, x, rfl⟩ := hl.form
  clear hb P hl
  go_wp2_with fail
  refine (M.out _ G.out).mono ?_
  rintro e w2 ⟨rfl, hw2⟩
  subst hw2
  go_wp2_with fail
  refine S.out.mono ?_
  rintro e w3 ⟨b, f, rfl, hs, hbb, hg3, hi⟩
  have G3 : Hid (w.grownBy w3 none) := grown_trans G.out hg3
  have L3 : Hid (Calls Tryd.prog 11 #[.pointer (some ⟨b, 0, none⟩), .int .i64 0, .int .i64 z.length] w3 fun e w' => e = .returned (.bool r) ∧ w' = w3) := by
    have h1 := leads_any b f m z w3 hs hi hn
    have h2 : (f 0).testBit z.length = saysB z m := by
      refine Bool.eq_iff_iff.2 (((hi 0).2 z.length).trans ?_)
      rw [saysB_iff]
      exact ⟨fun h => h.2, fun h => ⟨Nat.zero_le _, h⟩⟩
    rw [h2, HR.out] at h1
    exact h1
  clear hs hbb hg3 hi S G M
  go_wp2_with fail
  refine L3.out.mono ?_
  rintro e w4 ⟨rfl, hw4⟩
  subst hw4
  go_wp2_with fail
  first | (go_ret2; exact ⟨rfl, G3.out⟩) | exact bodyPost_ret (v := .tuple #[.bool r, .int .i64 0]) (by simp [results, Tryd.results4, go_sem]) rfl ⟨rfl, G3.out⟩

end Go.Proofs.YtepldeogcoigkaaDoor
