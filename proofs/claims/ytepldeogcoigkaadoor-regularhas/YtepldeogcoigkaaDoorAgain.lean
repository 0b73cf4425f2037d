/- The span of a star; what a span leads to; the span of any part. -/
import Derived.Test.YtepldeogcoigkaaDoorSpanR
namespace Go.Proofs.YtepldeogcoigkaaDoor
open Go.RowKit
set_option linter.unusedVariables false

theorem star_ahead {m : Sense} (h : Ahead m) : Ahead (starS m) := by
  intro z i j hi hs
  have hs' : Star m z i j := hs
  induction hs' with
  | here i => exact ⟨Nat.le_refl _, hi⟩
  | step a hr ih =>
    have h1 := h _ _ _ hi a
    have h2 := ih h1.2 hr
    omega

theorem star_split {m : Sense} (h : Ahead m) {z : List Int} {i j : Nat} (hi : i ≤ z.length) (hs : Star m z i j) : j = i ∨ ∃ k, i < k ∧ k ≤ z.length ∧ m z i k ∧ Star m z k j := by
  induction hs with
  | here i => exact .inl rfl
  | @step i k j a hr ih =>
    have h1 := h _ _ _ hi a
    by_cases hk : k = i
    · subst hk; exact ih hi
    · exact .inr ⟨k, by omega, h1.2, a, hr⟩

set_option maxHeartbeats 1600000 in
theorem again_any (b1 : Nat) (f1 : Nat → Nat) (m : Sense) (z : List Int) (w : World) (h1 : SpanAt w b1 f1) (hI : SpanIs z f1 m) (hT : TabAt w) (hA : Ahead m) (hn : z.length ≤ 60) :
    Calls Tryd.prog 20 #[.pointer (some ⟨b1, 0, none⟩), .int .i64 z.length] w (Spans z w (starS m)) := by
  have S1 : Hid (SpanAt w b1 f1) := h1
  have I1 : Hid (SpanIs z f1 m) := hI
  have HT : Hid (TabAt w) := hT
  clear h1 hI hT
  go_enter Tryd.func20, Tryd.ntmps20
  go_wp2_with fail
  go_loopw [6] (fun v wr => ∃ (t : Nat) (f : Nat → Nat), v = .int .i64 ((t : Int) - 1) ∧ t ≤ z.length + 1 ∧ SpanAt wr w.heap.size f ∧ w.grownBy wr none ∧ ∀ i, f i < 2 ^ 61 ∧ ∀ j, (f i).testBit j = true ↔ t ≤ i ∧ i ≤ z.length ∧ Star m z i j) (fun v _ => ((intOf v) + 1).toNat)
  case atStart => exact ⟨z.length + 1, fun _ => 0, by go_num, by omega, SpanAt.new w, World.grownBy_alloc _ _ _, fun i => ⟨Nat.two_pow_pos 61, fun j => by simp; omega⟩⟩
  case round =>
    obtain ⟨t, f, rfl, ht, hs, hg, hi⟩ := hrel
    by_cases h0 : t = 0
    · subst h0
      have E : Hid (Spans z w (starS m) (.returned (.pointer (some ⟨w.heap.size, 0, none⟩))) wr) := ⟨_, f, rfl, hs, Nat.le_refl _, hg, fun i => ⟨(hi i).1, fun j => by rw [(hi i).2 j]; simp [starS]⟩⟩
      clear hs hg hi
      go_wp2_with fail
      go_ret
      exact E.out
    · obtain ⟨q, rfl⟩ : ∃ q, t = q + 1 := ⟨t - 1, by omega⟩
      have eq1 : ((q + 1 : Nat) : Int) - 1 = (q : Int) := by omega
      rw [eq1]
      clear eq1 h0
      have hs1 := S1.out.kept hg (by simp)
      have c1 := hs1.cell (i := q) (by omega)
      have z1 := hs1.fz q
      have c0 := hs.cell (i := q) (by omega)
      have z0 := hs.fz q
      have h61 : (q : Int) < 61 := by omega
      have p1 : IntKind.u64.wrap ((2 : Int) ^ q) = ((2 ^ q : Nat) : Int) := pow_shl q (by omega)
      have A : Hid (∀ W, wr.grownBy W none → Calls Tryd.prog 27 #[.pointer (some ⟨w.heap.size, 0, none⟩), .int .u64 (f1 q)] W fun e w' => ∃ r : Nat, e = .returned (.int .u64 r) ∧ r < 2 ^ 61 ∧ (∀ j, r.testBit j = true ↔ ∃ k, (f1 q).testBit k = true ∧ (f k).testBit j = true) ∧ W.grownBy w' none) :=
        fun W hW => after_any w.heap.size f (f1 q) W (hs.kept hW (by simp)) ((HT.out.kept hg (by simp)).kept hW (by simp)) (I1.out q).1 (fun k _ => (hi k).1)
      have S : Hid (SpanAt wr w.heap.size f) := hs
      have G : Hid (w.grownBy wr none) := hg
      have HI : Hid (∀ i, f i < 2 ^ 61 ∧ ∀ j, (f i).testBit j = true ↔ q + 1 ≤ i ∧ i ≤ z.length ∧ Star m z i j) := hi
      clear hs hg hi hs1
      go_wp2_with fail
      go_region_with (first | (go_at_call 27; refine (A.out _ (grown_drew (grown_refl _ _))).mono ?_; rintro e w5 ⟨r, rfl, hr, hrj, hg5⟩; have c5 : w5.cell? ⟨w.heap.size, q, none⟩ = some (.int .u64 (f q)) := hg5.cell c0 (by simp); have z5 : w5.frozen? ⟨w.heap.size, q, none⟩ = false := (hg5.frozen_far ⟨w.heap.size, q, none⟩ (by have := S.out.lt; exact this) (by simp)).trans z0; have er : bits .or .u64 ((2 : Int) ^ q) (r : Int) = ((2 ^ q ||| r : Nat) : Int) := (by have h1 : ((2 : Int) ^ q) = ((2 ^ q : Nat) : Int) := (by simp); rw [h1]; exact bits_or_span (Nat.pow_lt_pow_right (by decide) (by omega)) hr)))
      all_goals
        have hg6 : wr.grownBy w5 none := grown_trans (grown_drew (grown_refl _ _)) hg5
        have S6 : Hid (SpanAt (w5.setCell ⟨w.heap.size, q, none⟩ (.int .u64 ((2 ^ q ||| r : Nat) : Int))) w.heap.size (fun i => if i = q then 2 ^ q ||| r else f i)) := (S.out.kept hg6 (by simp)).set q rfl
        have G7 : Hid (w.grownBy (w5.setCell ⟨w.heap.size, q, none⟩ (.int .u64 ((2 ^ q ||| r : Nat) : Int))) none) := grown_new (grown_trans G.out hg6) (grown_set _ _ _) (Nat.le_refl _)
        have HRJ : Hid (∀ j, r.testBit j = true ↔ ∃ k, (f1 q).testBit k = true ∧ (f k).testBit j = true) := hrj
        clear hg5 hg6 hrj er
        go_wp2_with fail
        go_roundw
        case rel =>
          refine ⟨q, _, by go_num, by omega, S6.out, G7.out, fun i => ?_⟩
          show (if i = q then 2 ^ q ||| r else f i) < 2 ^ 61 ∧ ∀ j, (if i = q then 2 ^ q ||| r else f i).testBit j = true ↔ _
          by_cases hit : i = q
          · subst hit
            rw [if_pos rfl]
            refine ⟨Nat.or_lt_two_pow (Nat.pow_lt_pow_right (by decide) (by omega)) hr, fun j => ?_⟩
            rw [Nat.testBit_or, Bool.or_eq_true, Nat.testBit_two_pow, HRJ.out j]
            constructor
            · rintro (h | ⟨k, h1, h2⟩)
              · have : i = j := by simpa using h
                subst this
                exact ⟨Nat.le_refl _, by omega, .here _⟩
              · have e1 := ((I1.out i).2 k).1 h1
                have e2 := ((HI.out k).2 j).1 h2
                exact ⟨Nat.le_refl _, by omega, .step e1.2 e2.2.2⟩
            · rintro ⟨_, hil, hst⟩
              rcases star_split hA hil hst with h | ⟨k, k1, k2, k3, k4⟩
              · exact .inl (by simp [h])
              · exact .inr ⟨k, ((I1.out i).2 k).2 ⟨hil, k3⟩, ((HI.out k).2 j).2 ⟨by omega, k2, k4⟩⟩
          · rw [if_neg hit]
            refine ⟨(HI.out i).1, fun j => ?_⟩
            rw [(HI.out i).2 j]
            constructor
            · rintro ⟨h1, h2, h3⟩; exact ⟨by omega, h2, h3⟩
            · rintro ⟨h1, h2, h3⟩; exact ⟨by omega, h2, h3⟩
        case measure => first | (simp [intOf]; done) | (simp [intOf]; omega)

theorem leads_any (b1 : Nat) (f1 : Nat → Nat) (m : Sense) (z : List Int) (w : World) (h1 : SpanAt w b1 f1) (hI : SpanIs z f1 m) (hn : z.length ≤ 60) :
    Calls Tryd.prog 11 #[.pointer (some ⟨b1, 0, none⟩), .int .i64 0, .int .i64 z.length] w fun e w' => e = .returned (.bool ((f1 0).testBit z.length)) ∧ w' = w := by
  have c0 := h1.cell (i := 0) (by omega)
  have z0 := h1.fz 0
  have hf := (hI 0).1
  clear h1 hI
  generalize f1 0 = x at *
  have hx : x < 18446744073709551616 := Nat.lt_of_lt_of_le hf (by decide)
  have hz : (z.length : Int) ≤ 64 := by omega
  go_enter Tryd.func11, Tryd.ntmps11
  go_wp2_with fail
  go_ret
  refine ⟨ret_bool ?_, rfl⟩
  have e1 : ((x : Int) / 2 ^ z.length) = ((x / 2 ^ z.length : Nat) : Int) := by simp
  have hle : x / 2 ^ z.length ≤ x := Nat.div_le_self _ _
  rw [e1, show (1 : Int) = ((1 : Nat) : Int) from rfl, bits_and_u64_nat _ 1 (by omega) (by decide), Nat.and_one_is_mod, Nat.testBit_eq_decide_div_mod_eq]
  have h2 : ∀ y : Nat, (((y % 2 : Nat) : Int) == ((1 : Nat) : Int)) = decide (y % 2 = 1) := by
    intro y
    by_cases h : y % 2 = 1
    · simp [h]
    · have : y % 2 = 0 := by omega
      simp [this]
  exact h2 _

/-- What lies in memory as a part leads ahead. -/
theorem Lies.ahead {ok : Nat → Prop} {w : World} {v : Value} {m : Sense} (h : Lies ok w v m) : Ahead m := by
  induction h with
  | letter c hc => rintro z i j hi ⟨h1, h2, rfl⟩; omega
  | none a cap => rintro z i j hi h; exact h.elim
  | empty a cap => rintro z i j hi rfl; exact ⟨Nat.le_refl _, hi⟩
  | either g cap vs ms hok hn hc hl ih => rintro z i j hi ⟨k, hk, h⟩; exact ih k hk z i j hi h
  | row g cap vs ms hok hn hc hl ih => exact rowOf_ahead ih
  | star v m h ih => exact star_ahead ih

theorem asLL (w : World) (v : Value) : (Instr.typeAssert (.iface 53 v) 34 53 true).run Tryd.prog w = .ok (.tuple #[v, .bool true]) w := by kernel_rfl
theorem asEL (w : World) (v : Value) : (Instr.typeAssert (.iface 56 v) 34 53 true).run Tryd.prog w = .ok (.tuple #[.int .i64 0, .bool false]) w := by kernel_rfl
theorem asEE (w : World) (v : Value) : (Instr.typeAssert (.iface 56 v) 34 56 true).run Tryd.prog w = .ok (.tuple #[v, .bool true]) w := by kernel_rfl
theorem asRL (w : World) (v : Value) : (Instr.typeAssert (.iface 58 v) 34 53 true).run Tryd.prog w = .ok (.tuple #[.int .i64 0, .bool false]) w := by kernel_rfl
theorem asRE (w : World) (v : Value) : (Instr.typeAssert (.iface 58 v) 34 56 true).run Tryd.prog w = .ok (.tuple #[.slice none 0 0, .bool false]) w := by kernel_rfl
theorem asRR (w : World) (v : Value) : (Instr.typeAssert (.iface 58 v) 34 58 true).run Tryd.prog w = .ok (.tuple #[v, .bool true]) w := by kernel_rfl
theorem asSL (w : World) (v : Value) : (Instr.typeAssert (.iface 61 v) 34 53 true).run Tryd.prog w = .ok (.tuple #[.int .i64 0, .bool false]) w := by kernel_rfl
theorem asSE (w : World) (v : Value) : (Instr.typeAssert (.iface 61 v) 34 56 true).run Tryd.prog w = .ok (.tuple #[.slice none 0 0, .bool false]) w := by kernel_rfl
theorem asSR (w : World) (v : Value) : (Instr.typeAssert (.iface 61 v) 34 58 true).run Tryd.prog w = .ok (.tuple #[.slice none 0 0, .bool false]) w := by kernel_rfl
theorem asSS (w : World) (v : Value) : (Instr.typeAssert (.iface 61 v) 34 61 true).run Tryd.prog w = .ok (.tuple #[v, .bool true]) w := by kernel_rfl

set_option maxHeartbeats 800000 in
theorem spanOf_any {ok : Nat → Prop} {w : World} {v : Value} {m : Sense} (h : Lies ok w v m) (a : Option Addr) (cap : Nat) (z : List Int) (hn : z.length ≤ 60) :
    ∀ W, w.grownBy W none → TabAt W → Ints W a z → Calls Tryd.prog 10 #[v, .slice a z.length cap] W (Spans z W m) := by
  have hlie := h
  induction h with
  | letter c hc =>
    intro W hg hT hz
    have C : Hid (Calls Tryd.prog 17 #[.int .i64 c, .slice a z.length cap] W (Spans z W (letterS c))) := spanLetter_any c a cap z W hz hn
    have a1 := asLL W (.int .i64 c)
    clear hlie hg hT hz
    go_enter Tryd.func10, Tryd.ntmps10
    go_wp2_with fail
    refine C.out.mono ?_
    rintro e w2 ⟨b, f, rfl, hE⟩
    have E : Hid (Spans z W (letterS c) (.returned (.pointer (some ⟨b, 0, none⟩))) w2) := ⟨b, f, rfl, hE⟩
    clear hE C
    go_wp2_with fail
    go_ret
    exact E.out
  | none a' cap' =>
    intro W hg hT hz
    have C : Hid (Calls Tryd.prog 18 #[.slice a' 0 cap', .slice a z.length cap] W (Spans z W noneS)) := by
      have h1 := spanEither_any a' 0 cap' [] [] a cap z W hn (by simp) (fun h => by simp at h) (fun k hk => by simp at hk) (fun k hk => by simp at hk)
      rw [eitherOf_nil] at h1
      exact h1
    have a1 := asEL W (.slice a' 0 cap')
    have a2 := asEE W (.slice a' 0 cap')
    clear hlie hg hT hz
    go_enter Tryd.func10, Tryd.ntmps10
    go_wp2_with fail
    refine C.out.mono ?_
    rintro e w2 ⟨b, f, rfl, hE⟩
    have E : Hid (Spans z W noneS (.returned (.pointer (some ⟨b, 0, none⟩))) w2) := ⟨b, f, rfl, hE⟩
    clear hE C
    go_wp2_with fail
    go_ret
    exact E.out
  | empty a' cap' =>
    intro W hg hT hz
    have C : Hid (Calls Tryd.prog 19 #[.slice a' 0 cap', .slice a z.length cap] W (Spans z W emptyS)) := by
      have h1 := spanRow_any a' 0 cap' [] [] a cap z W hT hn (by simp) (fun k hk => by simp at hk) (fun h => by simp at h) (fun k hk => by simp at hk) (fun k hk => by simp at hk)
      have h1 : _ := h1
      exact h1
    have a1 := asRL W (.slice a' 0 cap')
    have a2 := asRE W (.slice a' 0 cap')
    have a3 := asRR W (.slice a' 0 cap')
    clear hlie hg hT hz
    go_enter Tryd.func10, Tryd.ntmps10
    go_wp2_with fail
    refine C.out.mono ?_
    rintro e w2 ⟨b, f, rfl, hE⟩
    have E : Hid (Spans z W emptyS (.returned (.pointer (some ⟨b, 0, none⟩))) w2) := ⟨b, f, rfl, hE⟩
    clear hE C
    go_wp2_with fail
    go_ret
    exact E.out
  | either g capg vs ms hok hm hc hl ih =>
    intro W hg hT hz
    have C : Hid (Calls Tryd.prog 18 #[.slice (some ⟨g, 0, none⟩) ms.length capg, .slice a z.length cap] W (Spans z W (eitherOf ms))) :=
      spanEither_any _ g capg vs ms a cap z W hn hm (fun _ => rfl) (fun k hk => hg.cell (hc k hk) (by simp)) (fun k hk W2 hg2 => ih k hk (hl k hk) W2 (grown_trans hg hg2) (hT.kept hg2 (by simp)) (hz.grown hg2))
    have a1 := asEL W (.slice (some ⟨g, 0, none⟩) ms.length capg)
    have a2 := asEE W (.slice (some ⟨g, 0, none⟩) ms.length capg)
    clear hlie hg hT hz ih hl hc hok
    go_enter Tryd.func10, Tryd.ntmps10
    go_wp2_with fail
    refine C.out.mono ?_
    rintro e w2 ⟨b, f, rfl, hE⟩
    have E : Hid (Spans z W (eitherOf ms) (.returned (.pointer (some ⟨b, 0, none⟩))) w2) := ⟨b, f, rfl, hE⟩
    clear hE C
    go_wp2_with fail
    go_ret
    exact E.out
  | row g capg vs ms hok hm hc hl ih =>
    intro W hg hT hz
    have C : Hid (Calls Tryd.prog 19 #[.slice (some ⟨g, 0, none⟩) ms.length capg, .slice a z.length cap] W (Spans z W (rowOf ms))) :=
      spanRow_any _ g capg vs ms a cap z W hT hn hm (fun k hk => (hl k hk).ahead) (fun _ => rfl) (fun k hk => hg.cell (hc k hk) (by simp)) (fun k hk W2 hg2 => ih k hk (hl k hk) W2 (grown_trans hg hg2) (hT.kept hg2 (by simp)) (hz.grown hg2))
    have a1 := asRL W (.slice (some ⟨g, 0, none⟩) ms.length capg)
    have a2 := asRE W (.slice (some ⟨g, 0, none⟩) ms.length capg)
    have a3 := asRR W (.slice (some ⟨g, 0, none⟩) ms.length capg)
    clear hlie hg hT hz ih hl hc hok
    go_enter Tryd.func10, Tryd.ntmps10
    go_wp2_with fail
    refine C.out.mono ?_
    rintro e w2 ⟨b, f, rfl, hE⟩
    have E : Hid (Spans z W (rowOf ms) (.returned (.pointer (some ⟨b, 0, none⟩))) w2) := ⟨b, f, rfl, hE⟩
    clear hE C
    go_wp2_with fail
    go_ret
    exact E.out
  | star v m h ih =>
    intro W hg hT hz
    have C : Hid (∀ o, Calls Tryd.prog 10 #[v, .slice a z.length cap] (W.alloc o) (Spans z (W.alloc o) m)) := fun o => ih h (W.alloc o) (grown_trans hg (World.grownBy_alloc _ _ _)) (hT.kept (World.grownBy_alloc _ _ none) (by simp)) (hz.grown (World.grownBy_alloc _ _ _))
    have A : Hid (Ahead m) := h.ahead
    have HT : Hid (TabAt W) := hT
    obtain ⟨t, x, rfl⟩ := h.form
    have a1 := asSL W (.agg #[.iface t x])
    have a2 := asSE W (.agg #[.iface t x])
    have a3 := asSR W (.agg #[.iface t x])
    have a4 := asSS W (.agg #[.iface t x])
    clear hlie hg hT hz ih h
    go_enter Tryd.func10, Tryd.ntmps10
    go_wp2_with fail
    refine (C.out _).mono ?_
    rintro e w2 ⟨b, f, rfl, hs, hb, hg2, hi⟩
    have G2 : Hid (W.grownBy w2 none) := grown_trans (World.grownBy_alloc _ _ _) hg2
    have D : Hid (Calls Tryd.prog 20 #[.pointer (some ⟨b, 0, none⟩), .int .i64 z.length] w2 (Spans z w2 (starS m))) := again_any b f m z w2 hs hi (HT.out.kept G2.out (by simp)) A.out hn
    clear hs hb hg2 hi C
    go_wp2_with fail
    refine D.out.mono ?_
    rintro e w3 ⟨b3, f3, rfl, h1, h2, h3, h4⟩
    have E : Hid (Spans z W (starS m) (.returned (.pointer (some ⟨b3, 0, none⟩))) w3) := ⟨b3, f3, rfl, h1, Nat.le_trans G2.out.size h2, grown_trans G2.out h3, h4⟩
    clear h1 h2 h3 h4 D G2
    go_wp2_with fail
    go_ret
    exact E.out

end Go.Proofs.YtepldeogcoigkaaDoor
