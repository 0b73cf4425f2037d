/- The reference's Odd: whether there is a way round with a wrong least mark. -/
import Derived.Test.YtnlkdihfoekjmaaGSolved
import Derived.Test.YtnlkdihfoekjmaaSay
namespace Go.Proofs.Ytnlkdihfoekjmaa
open Go.RowKit
set_option linter.unusedVariables false

/-- A step over places that are looked at, with marks that are no less than a place's. -/
def OddE (nxt : Nat → List Nat) (inn : Nat → Bool) (mk : Nat → Int) (p x y : Nat) : Prop := y ∈ nxt x ∧ inn x = true ∧ inn y = true ∧ mk p ≤ mk x ∧ mk p ≤ mk y

/-- Where what is looked at lies. -/
structure OddAt (n : Nat) (mk : Nat → Int) (nxt : Nat → List Nat) (inn : Nat → Bool) (bk ok bx ox gi : Nat) (xa : Nat → Option Addr) (xd : Nat → Nat) (w : World) : Prop where
  mark : ∀ p, p < n → w.cell? ⟨bk, ok + p, none⟩ = some (.int .i64 (mk p))
  next : ∀ p, p < n → w.cell? ⟨bx, ox + p, none⟩ = some (.slice (xa p) (nxt p).length (xd p)) ∧ NatsAt w (xa p) (nxt p)
  inn : BRow w gi n n inn
theorem OddAt.grown {n : Nat} {mk : Nat → Int} {nxt : Nat → List Nat} {inn : Nat → Bool} {bk ok bx ox gi : Nat} {xa : Nat → Option Addr} {xd : Nat → Nat} {w w' : World} (h : OddAt n mk nxt inn bk ok bx ox gi xa xd w) (hg : w.grownBy w' none) : OddAt n mk nxt inn bk ok bx ox gi xa xd w' :=
  ⟨fun p hp => hg.cell (h.mark p hp) (by simp), fun p hp => ⟨hg.cell (h.next p hp).1 (by simp), (h.next p hp).2.grown hg⟩, h.inn.kept hg⟩

structure OdAt (n B gs : Nat) (w wr : World) (a : Option Addr) (m ca : Nat) (row : List Nat) (seen : Nat → Bool) : Prop where
  own : Owns B wr [(3, .slice a m ca, nvals row)]
  sn : BRow wr gs n n seen
  gr : w.grownBy wr none
  l1 : gs < B
  l2 : w.heap.size ≤ gs
  l3 : B ≤ wr.heap.size
section
variable {n B gs : Nat} {w wr wr' : World} {a : Option Addr} {m ca : Nat} {row : List Nat} {seen : Nat → Bool}
theorem OdAt.kept (h : OdAt n B gs w wr a m ca row seen) (hg : wr.grownBy wr' none) : OdAt n B gs w wr' a m ca row seen := ⟨h.own.kept hg, h.sn.kept hg, grown_trans h.gr hg, h.l1, h.l2, Nat.le_trans h.l3 hg.size⟩
theorem OdAt.put (h : OdAt n B gs w wr a m ca row seen) {q : Nat} (hq : q < n) {seen' : Nat → Bool} (e1 : seen' q = true) (e2 : ∀ j, j ≠ q → seen' j = seen j) : OdAt n B gs w (wr.setCell ⟨gs, q, none⟩ (.bool true)) a m ca row seen' :=
  ⟨h.own.below (grown_set _ _ _) h.l1, h.sn.put hq e1 e2, grown_new h.gr (grown_set _ _ _) h.l2, h.l1, h.l2, by simpa [World.setCell] using h.l3⟩
theorem OdAt.push (h : OdAt n B gs w wr a m ca row seen) {g' cap H q : Nat} (hm : m = row.length) (ho : wr'.ownsRow B 3 1 (.slice (some ⟨g', 0, none⟩) (m + 1) cap) (m + 1) (nvals row ++ [.int .i64 (q : Int)])) (hg : wr.grownBy wr' (Value.slice a m ca).ownBlock) (hat : (Value.slice a m ca).ownBlock = some g' ∨ g' = H) (hH : wr.heap.size = H) :
    OdAt n B gs w wr' (some ⟨g', 0, none⟩) (m + 1) cap (row ++ [q]) seen := by
  have h1 := h.own.append (news := [.int .i64 (q : Int)]) ho (by rw [nvals_len, hm]; simp) hg hat hH
  have l1 := h.l1
  have l2 := h.l2
  have hb : ∀ b, (Value.slice a m ca).ownBlock = some b → B ≤ b := fun b hb => (h.own.row.lt b hb).1
  refine ⟨by simpa [nvals] using h1, h.sn.grownO hg (fun b e => by have := hb b e; omega), h.own.frame (by omega) h.gr hg, l1, l2, Nat.le_trans h.l3 hg.size⟩
theorem OdAt.rowC (h : OdAt n B gs w wr a m ca row seen) {k : Nat} (hk : k < row.length) : ∃ b, a = some ⟨b, 0, none⟩ ∧ wr.cell? ⟨b, k, none⟩ = some (.int .i64 ((row.getD k 0 : Nat) : Int)) := by
  obtain ⟨g, cap, e, _⟩ := h.own.form (by rw [nvals_len]; omega)
  cases e
  exact ⟨g, rfl, h.own.cell (nvals_get hk)⟩
end

/-- What is known of the row of places that are come to. -/
structure OdRow (n : Nat) (nxt : Nat → List Nat) (inn : Nat → Bool) (mk : Nat → Int) (p : Nat) (row : List Nat) (seen : Nat → Bool) : Prop where
  cons : ∃ rest, row = p :: rest ∧ rest.Nodup ∧ (∀ q, q < n → seen q = decide (q ∈ rest)) ∧ ∀ x, x ∈ rest → x < n ∧ inn x = true ∧ mk p ≤ mk x ∧ Pt (OddE nxt inn mk p) p x
section
variable {n : Nat} {nxt : Nat → List Nat} {inn : Nat → Bool} {mk : Nat → Int} {p : Nat} {row : List Nat} {seen : Nat → Bool}
theorem OdRow.start (n : Nat) (nxt : Nat → List Nat) (inn : Nat → Bool) (mk : Nat → Int) (p : Nat) : OdRow n nxt inn mk p [p] (fun _ => false) := ⟨[], rfl, List.nodup_nil, fun _ _ => by simp, fun _ h => by simp at h⟩
theorem OdRow.len (h : OdRow n nxt inn mk p row seen) : row.length ≤ n + 1 := by
  obtain ⟨rest, rfl, h1, _, h2⟩ := h.cons
  have := List.Nodup.length_le_of_subset h1 (l₂ := List.range n) (fun q hq => List.mem_range.2 (h2 q hq).1)
  rw [List.length_range] at this
  simp; omega
theorem OdRow.lt (h : OdRow n nxt inn mk p row seen) (hp : p < n) {x : Nat} (hx : x ∈ row) : x < n := by
  obtain ⟨rest, rfl, _, _, h2⟩ := h.cons
  rcases List.mem_cons.1 hx with rfl | hx
  · exact hp
  · exact (h2 x hx).1
/-- A step on. -/
theorem OdRow.step (h : OdRow n nxt inn mk p row seen) (hip : inn p = true) {x y : Nat} (hx : x ∈ row) (hy : y ∈ nxt x) (hiy : inn y = true) (hmy : mk p ≤ mk y) : Pt (OddE nxt inn mk p) p y := by
  obtain ⟨rest, rfl, _, _, h2⟩ := h.cons
  rcases List.mem_cons.1 hx with rfl | hx
  · exact .one ⟨hy, hip, hiy, Int.le_refl _, hmy⟩
  · obtain ⟨_, h3, h4, h5⟩ := h2 x hx
    exact .more h5 ⟨hy, h3, hiy, h4, hmy⟩
theorem OdRow.put (h : OdRow n nxt inn mk p row seen) (hip : inn p = true) {x y : Nat} (hx : x ∈ row) (hy : y ∈ nxt x) (hiy : inn y = true) (hmy : mk p ≤ mk y) (hyn : y < n) (hs : seen y = false) : OdRow n nxt inn mk p (row ++ [y]) (fun q => if q = y then true else seen q) := by
  have hpt := h.step hip hx hy hiy hmy
  obtain ⟨rest, rfl, h1, h2, h3⟩ := h.cons
  have hyr : y ∉ rest := by have := h2 y hyn; rw [hs] at this; simpa using this.symm
  refine ⟨rest ++ [y], rfl, ?_, fun q hq => ?_, fun z hz => ?_⟩
  · rw [List.nodup_append]
    exact ⟨h1, by simp, fun a ha b hb => by simp at hb; subst hb; exact fun e => hyr (e ▸ ha)⟩
  · by_cases e : q = y
    · simp [e]
    · simp only [e, if_false]; rw [h2 q hq]; simp [e]
  · rcases List.mem_append.1 hz with hz | hz
    · exact h3 z hz
    · simp at hz; subst hz; exact ⟨hyn, hiy, hmy, hpt⟩
end
theorem bools40 (w : World) (n : Nat) (hn : n ≤ 1000) : ∃ W, (Instr.makeSlice 50 (.int .i64 (n : Int)) (.int .i64 (n : Int))).run Try.prog w = .ok (.slice (some ⟨w.heap.size, 0, none⟩) n n) W ∧ BRow W w.heap.size n n (fun _ => false) ∧ w.grownBy W none ∧ W.heap.size = w.heap.size + 1 := by
  obtain ⟨i0, hi, hz0, hz1, hz2⟩ := info_parts Try.infoB4
  have hmk := run_make (P := Try.prog) w 50 4 i0 (.bool false) Try.underlying50 hi hz0 .i64 .i64 (n : Int) (n : Int) (by omega) (by omega) (by rw [hz2]; omega) (by omega)
  rw [hz1, Nat.mul_one, Int.toNat_natCast, madeF] at hmk
  exact ⟨_, hmk, RowB.make _ _ _ _, grown_alloc _ _, World.size_alloc _ _⟩

set_option maxHeartbeats 6400000 in
set_option maxRecDepth 100000 in
theorem odd_any (n : Nat) (mk : Nat → Int) (nxt : Nat → List Nat) (inn : Nat → Bool) (bk ok ck bx ox cx gi : Nat) (xa : Nat → Option Addr) (xd : Nat → Nat) (i : Int) (w : World) (h : OddAt n mk nxt inn bk ok bx ox gi xa xd w) (hn : n ≤ 100) (hmk : ∀ p, p < n → 0 ≤ mk p ∧ mk p ≤ 9)
    (hlt : ∀ p, p < n → ∀ q, q ∈ nxt p → q < n) (hln : ∀ p, p < n → (nxt p).length ≤ 100) (hno : ∀ p, p < n → inn p = true → mk p % 2 ≠ i → ¬ Pt (OddE nxt inn mk p) p p) :
    Calls Try.prog 20 #[.slice (some ⟨bk, ok, none⟩) n ck, .slice (some ⟨bx, ox, none⟩) n cx, .slice (some ⟨gi, 0, none⟩) n n, .int .i64 i] w (Says (.bool false) w) := by
  have H : Hid (∀ W, w.grownBy W none → OddAt n mk nxt inn bk ok bx ox gi xa xd W) := fun W hW => h.grown hW
  have HMk : Hid (∀ p, p < n → 0 ≤ mk p ∧ mk p ≤ 9) := hmk
  have HLt : Hid (∀ p, p < n → ∀ q, q ∈ nxt p → q < n) := hlt
  have HLn : Hid (∀ p, p < n → (nxt p).length ≤ 100) := hln
  have HNo : Hid (∀ p, p < n → inn p = true → mk p % 2 ≠ i → ¬ Pt (OddE nxt inn mk p) p p) := hno
  clear h hmk hlt hln hno
  go_enter Try.func20, Try.ntmps20
  go_wp2_with fail
  go_loopw [9] (fun v wr => ∃ p : Nat, p ≤ n ∧ v = .int .i64 p ∧ w.grownBy wr none) (fun v _ => n - (intOf v).toNat)
  case atStart => exact ⟨0, by omega, rfl, grown_refl _ _⟩
  case round =>
    obtain ⟨p, hp, rfl, hg⟩ := hrel
    have GG : Hid (w.grownBy wr none) := hg
    clear hg
    by_cases hpn : p < n
    · have hpi : (p : Int) < (n : Int) := by omega
      have c0 := (H.out wr GG.out).inn.cell hpn
      cases hip : inn p with
      | false =>
        rw [hip] at c0
        go_wp2_with fail
        go_roundw
        case rel => exact ⟨p + 1, by omega, by go_num, GG.out⟩
        case measure => simp [intOf]; omega
      | true =>
        rw [hip] at c0
        have c1 := (H.out wr GG.out).mark p hpn
        have hmp := HMk.out p hpn
        obtain ⟨j, htj, hmj, _⟩ := tmod2 hmp.1
        have HMj : Hid (mk p % 2 = j) := hmj
        have HIp : Hid (inn p = true) := hip
        have HMp : Hid (mk p = mk p) := rfl
        obtain ⟨mp, hmpe⟩ : ∃ mp, mk p = mp := ⟨_, rfl⟩
        have HMpe : Hid (mk p = mp) := hmpe
        rw [hmpe] at c1 htj hmp
        clear hip hmj hmpe HMp
        by_cases hji : j = i
        · have hji' : (j == i) = true := by simpa using hji
          clear hji
          go_wp2_with fail
          go_roundw
          case rel => exact ⟨p + 1, by omega, by go_num, GG.out⟩
          case measure => simp [intOf]; omega
        · have hji' : (j == i) = false := by simpa using hji
          have HNp : Hid (¬ Pt (OddE nxt inn mk p) p p) := HNo.out p hpn HIp.out (by rw [HMj.out]; exact hji)
          obtain ⟨W1, hmk1, r1, g1, s1⟩ := bools40 wr n (by omega)
          have o1 := (Owns.no W1.heap.size W1).made (arr := #[.int .i64 (p : Int)]) (n := 1) (Nat.le_refl _) 3 rfl (by unfold maxLen; omega)
          have OD : Hid (OdAt n W1.heap.size wr.heap.size w (W1.alloc (.cells #[.int .i64 (p : Int)] 3)) (some ⟨W1.heap.size, 0, none⟩) 1 1 [p] (fun _ => false)) := ⟨by simpa [nvals] using o1, r1.alloc _, grown_trans (grown_trans GG.out g1) (grown_alloc _ _), by omega, GG.out.size, by simp⟩
          have OR : Hid (OdRow n nxt inn mk p [p] (fun _ => false)) := OdRow.start n nxt inn mk p
          have HS1 : Hid (W1.heap.size = wr.heap.size + 1) := s1
          clear r1 g1 s1 o1 hji
          go_wp2_with fail
          clear c0 c1 hmk1
          obtain ⟨gs, hgs⟩ : ∃ gs, wr.heap.size = gs := ⟨_, rfl⟩
          rw [hgs] at OD HS1 ⊢
          obtain ⟨B, hB⟩ : ∃ B, W1.heap.size = B := ⟨_, rfl⟩
          rw [hB] at OD ⊢
          clear hgs hB HS1 GG
          go_loopw [11, 12] (fun u v wr => ∃ (k m : Nat) (a : Option Addr) (ca : Nat) (row : List Nat) (seen : Nat → Bool), u = .slice a m ca ∧ v = .int .i64 k ∧ k ≤ m ∧ m = row.length ∧ OdAt n B gs w wr a m ca row seen ∧ OdRow n nxt inn mk p row seen) (fun u v _ => n + 1 - (intOf v).toNat)
          case atStart => exact ⟨0, 1, _, 1, [p], _, rfl, rfl, by omega, rfl, OD.out, OR.out⟩
          case round =>
            clear OD OR
            obtain ⟨k, m, a, ca, row, seen, rfl, rfl, hkm0, hm, hod, hor⟩ := hrel
            have OD : Hid (OdAt n B gs w wr a m ca row seen) := hod
            have OR : Hid (OdRow n nxt inn mk p row seen) := hor
            have HM : Hid (m = row.length) := hm
            have hmn : m ≤ n + 1 := by have := hor.len; omega
            clear hod hor hm
            by_cases hkm : k < m
            · have hki : (k : Int) < (m : Int) := by omega
              have hkl : k < row.length := by rw [← HM.out]; exact hkm
              obtain ⟨br, rfl, hcr⟩ := OD.out.rowC hkl
              have hxm : row.getD k 0 ∈ row := getD_mem hkl
              obtain ⟨x, hx⟩ : ∃ x, row.getD k 0 = x := ⟨_, rfl⟩
              rw [hx] at hcr hxm
              have hxn := OR.out.lt hpn hxm
              have HXM : Hid (x ∈ row) := hxm
              have hxi : (x : Int) < (n : Int) := by omega
              obtain ⟨h6, _⟩ := (H.out wr OD.out.gr).next x hxn
              have HXN : Hid (∀ W, w.grownBy W none → NatsAt W (xa x) (nxt x)) := fun W hW => ((H.out W hW).next x hxn).2
              have HXl : Hid (∀ q, q ∈ nxt x → q < n) := HLt.out x hxn
              obtain ⟨l, hl⟩ : ∃ l, nxt x = l := ⟨_, rfl⟩
              have HL : Hid (nxt x = l) := hl
              have hl60 := HLn.out x hxn
              rw [hl] at h6 HXN HXl hl60
              obtain ⟨ln, hln⟩ : ∃ ln, l.length = ln := ⟨_, rfl⟩
              have HLl : Hid (l.length = ln) := hln
              rw [hln] at h6 hl60
              generalize xa x = xax at *
              clear hx hl hln hxm
              go_wp2_with fail
              clear h6 hcr
              go_loopw [11, 14] (fun u v wr => ∃ (t m : Nat) (a : Option Addr) (ca : Nat) (row : List Nat) (seen : Nat → Bool), u = .slice a m ca ∧ v = .int .i64 t ∧ t ≤ ln ∧ m = row.length ∧ k < m ∧ x ∈ row ∧ OdAt n B gs w wr a m ca row seen ∧ OdRow n nxt inn mk p row seen) (fun _ v _ => ln - (intOf v).toNat)
              case atStart => exact ⟨0, m, _, ca, row, seen, rfl, rfl, by omega, HM.out, hkm, HXM.out, OD.out, OR.out⟩
              case round =>
                clear OD OR HM HXM hkm hki hkl hmn hkm0
                obtain ⟨t, m, a, ca, row, seen, rfl, rfl, ht, hm, hkm, hxm, hod, hor⟩ := hrel
                have OD : Hid (OdAt n B gs w wr a m ca row seen) := hod
                have OR : Hid (OdRow n nxt inn mk p row seen) := hor
                have HM : Hid (m = row.length) := hm
                have HXM : Hid (x ∈ row) := hxm
                have hmn : m ≤ n + 1 := by have := hor.len; omega
                clear hod hor hm hxm
                by_cases htl : t < ln
                · have hti : (t : Int) < (ln : Int) := by omega
                  have htl' : t < l.length := by rw [HLl.out]; exact htl
                  obtain ⟨b5, o5, rfl, hc5⟩ := (HXN.out wr OD.out.gr).at htl'
                  have h5 := hc5 t htl'
                  have hqm := getD_mem htl'
                  obtain ⟨q, hq⟩ : ∃ q, l.getD t 0 = q := ⟨_, rfl⟩
                  rw [hq] at h5 hqm
                  have hqn := HXl.out q hqm
                  have HQ : Hid (q ∈ nxt x) := by show _ ∈ _; rw [HL.out]; exact hqm
                  have hqi : (q : Int) < (n : Int) := by omega
                  have hqp : ((q : Int) == (p : Int)) = false := by
                    rw [beq_eq_false_iff_ne]
                    intro e
                    have e' : q = p := by omega
                    subst e'
                    exact HNp.out (OR.out.step HIp.out HXM.out HQ.out HIp.out (Int.le_refl _))
                  have c1 := (H.out wr OD.out.gr).inn.cell hqn
                  have c2 := (H.out wr OD.out.gr).mark q hqn
                  have c3 := (H.out wr OD.out.gr).mark p hpn
                  have c4 := OD.out.sn.cell hqn
                  have f4 := OD.out.sn.frozen q
                  rw [HMpe.out] at c3
                  clear hc5 hq hqm
                  cases hiq : inn q with
                  | false =>
                    rw [hiq] at c1
                    clear hiq c2 c3 c4
                    go_wp2_with fail
                    go_quiet (fail)
                    go_wp2_with fail
                    go_roundw
                    case rel => exact ⟨t + 1, m, a, ca, row, seen, rfl, by go_num, by omega, HM.out, hkm, HXM.out, OD.out.kept (grown_drewN (grown_refl _ _) _), OR.out⟩
                    case measure => simp [intOf]; omega
                  | true =>
                    rw [hiq] at c1
                    have HIq : Hid (inn q = true) := hiq
                    obtain ⟨mq, hmq⟩ : ∃ mq, mk q = mq := ⟨_, rfl⟩
                    have HMq : Hid (mk q = mq) := hmq
                    rw [hmq] at c2
                    clear hiq hmq
                    by_cases hle : mp ≤ mq
                    · have hle' : decide (mp ≤ mq) = true := by simpa using hle
                      cases hsq : seen q with
                      | true =>
                        rw [hsq] at c4
                        clear hsq hle
                        go_wp2_with fail
                        go_quiet (fail)
                        go_wp2_with fail
                        go_roundw
                        case rel => exact ⟨t + 1, m, a, ca, row, seen, rfl, by go_num, by omega, HM.out, hkm, HXM.out, OD.out.kept (grown_drewN (grown_refl _ _) _), OR.out⟩
                        case measure => simp [intOf]; omega
                      | false =>
                        rw [hsq] at c4
                        have OR2 : Hid (OdRow n nxt inn mk p (row ++ [q]) (fun z => if z = q then true else seen z)) := OR.out.put HIp.out HXM.out HQ.out HIq.out (by rw [HMpe.out, HMq.out]; exact hle) hqn hsq
                        clear hsq hle
                        go_wp2_with fail
                        go_quiet (fail)
                        obtain ⟨Wq, hWq⟩ : ∃ Wq, wr.drewN nq = Wq := ⟨_, rfl⟩
                        rw [hWq]
                        have D1 : Hid (OdAt n B gs w Wq a m ca row seen) := OD.out.kept (hWq ▸ grown_drewN (grown_refl _ _) _)
                        have c5 := D1.out.sn.cell hqn
                        have f5 := D1.out.sn.frozen q
                        have D3 : Hid (OdAt n B gs w (Wq.setCell ⟨gs, q, none⟩ (.bool true)) a m ca row (fun z => if z = q then true else seen z)) := D1.out.put hqn (by simp) (fun z hz => by simp [hz])
                        have hs2 : (Wq.setCell ⟨gs, q, none⟩ (.bool true)).heap.size = Wq.heap.size := by simp [World.setCell]
                        have D4 : Hid (OdAt n B gs w ((Wq.setCell ⟨gs, q, none⟩ (.bool true)).alloc (.cells #[.int .i64 (q : Int)] 3)) a m ca row (fun z => if z = q then true else seen z)) := D3.out.kept (grown_alloc _ _)
                        have hO : Hid (((Wq.setCell ⟨gs, q, none⟩ (.bool true)).alloc (.cells #[.int .i64 (q : Int)] 3)).ownsRow B 3 1 (.slice a m ca) m (nvals row)) := by
                          have := D4.out.own.row
                          rw [nvals_len, ← HM.out] at this
                          exact this
                        have hN4 : Hid (∀ j u, [Value.int .i64 (q : Int)][j]? = some u → ((Wq.setCell ⟨gs, q, none⟩ (.bool true)).alloc (.cells #[.int .i64 (q : Int)] 3)).cell? ((⟨Wq.heap.size, 0, none⟩ : Addr).add j) = some u) := fun j u hu => by
                          have := cell_one_new (Wq.setCell ⟨gs, q, none⟩ (.bool true)) (.int .i64 (q : Int)) 3 j u hu
                          rwa [hs2] at this
                        have HS4 : Hid (((Wq.setCell ⟨gs, q, none⟩ (.bool true)).alloc (.cells #[.int .i64 (q : Int)] 3)).heap.size = Wq.heap.size + 1) := by show _ = _; rw [World.size_alloc, hs2]
                        have HB0 : Hid (B ≤ ((Wq.setCell ⟨gs, q, none⟩ (.bool true)).alloc (.cells #[.int .i64 (q : Int)] 3)).heap.size) := D4.out.l3
                        obtain ⟨i0, hio, hz0, hz1, hz2⟩ := info_parts Try.infoI3
                        clear hs2 D1 D3 OD hWq c4 f4 c1 c2 c3
                        go_wp2_with (at_builtin; refine wpList_append_lies _ rfl _ _ 23 rfl B 3 i0 (.int .i64 0) 1 8 Try.underlying23 hio hz0 hz1 hz2 rfl (by decide) (.slice a m ca) m (nvals row) rfl hO.out ⟨Wq.heap.size, 0, none⟩ 1 1 [.int .i64 (q : Int)] rfl rfl hN4.out (by intro u hu; simp at hu; subst hu; rfl) (by omega) (by unfold maxLen; omega) (by omega) HB0.out (Wq.heap.size + 1) HS4.out ?_; intro g3 cap w3 ho3 hg3 hat3 _)
                        have D5 : Hid (OdAt n B gs w w3 (some ⟨g3, 0, none⟩) (m + 1) cap (row ++ [q]) (fun z => if z = q then true else seen z)) := D4.out.push HM.out ho3 hg3 hat3 HS4.out
                        clear ho3 hg3 hat3
                        go_roundw
                        case rel => exact ⟨t + 1, m + 1, _, cap, row ++ [q], _, rfl, by go_num, by omega, by rw [List.length_append, ← HM.out]; rfl, by omega, List.mem_append_left _ HXM.out, D5.out, OR2.out⟩
                        case measure => simp [intOf]; omega
                    · have hle' : decide (mp ≤ mq) = false := by simpa using hle
                      clear hle c4
                      go_wp2_with fail
                      go_quiet (fail)
                      go_wp2_with fail
                      go_roundw
                      case rel => exact ⟨t + 1, m, a, ca, row, seen, rfl, by go_num, by omega, HM.out, hkm, HXM.out, OD.out.kept (grown_drewN (grown_refl _ _) _), OR.out⟩
                      case measure => simp [intOf]; omega
                · have hti : ¬ (t : Int) < (ln : Int) := by omega
                  go_wp2_with fail
                  go_roundw
                  case rel => exact ⟨k + 1, m, a, ca, row, seen, rfl, by go_num, by omega, HM.out, OD.out, OR.out⟩
                  case measure => simp [intOf]; omega
            · have hki : ¬ (k : Int) < (m : Int) := by omega
              go_wp2_with fail
              go_roundw
              case rel => exact ⟨p + 1, by omega, by go_num, OD.out.gr⟩
              case measure => simp [intOf]; omega
    · have hpi : ¬ (p : Int) < (n : Int) := by omega
      go_wp2_with fail
      go_ret
      exact ⟨rfl, GG.out⟩

end Go.Proofs.Ytnlkdihfoekjmaa
