/- What is said to letters from a state on: the program's along. -/
import Derived.Test.YtodcmlcpicabaaaBas
namespace Go.Proofs.Ytodcmlcpicabaaa
open Go.RowKit
set_option linter.unusedVariables false
set_option linter.unusedSimpArgs false

def AlongP (x : TrI) (q : Nat) (us : List Nat) (w : World) (e : Ending) (w' : World) : Prop := ∃ a c, e = .returned (.tuple #[.slice a (ruT x q us).length c, .int .i64 ((goT x q us : Nat) : Int)]) ∧ Ints w' a (ruT x q us) ∧ w.grownBy w' none ∧ ∀ y, a = some y → w.heap.size ≤ y.block
/-- What holds behind k letters. -/
def AlSt (x : TrI) (q : Nat) (us : List Nat) (W1 : World) (k : Nat) (v6 v1 : Value) (W : World) : Prop := ∃ a c, v6 = .slice a (ruT x q (us.take k)).length c ∧ v1 = .int .i64 ((goT x q (us.take k) : Nat) : Int) ∧ OwnW W1 W a c (ruT x q (us.take k))

attribute [local go_sem ↓] appY_fold in
set_option maxHeartbeats 3200000 in
set_option maxRecDepth 100000 in
theorem along_any (x : TrI) (I : Nat) (a3 a4 a5 a6 : Option Addr) (c3 c4 c5 c6 : Nat) (w : World) (h : TnAt w x a3 a4 a5 a6) (hr : ReadT x I) (hI : I ≤ 4) (hN : x.N.length ≤ 1000) (q : Nat) (hq : q < x.N.length) (us : List Nat) (hu : ∀ l ∈ us, l < I) (hl : us.length ≤ 60) (au : Option Addr) (cu : Nat) (hi : Ints w au (nsT us)) :
    Calls Try.prog 36 #[tnV x.I x.O x.S a3 x.F.length c3 a4 x.N.length c4 a5 x.Y.length c5 a6 x.E.length c6, .int .i64 (q : Int), .slice au us.length cu] w (AlongP x q us w) := by
  obtain ⟨W1, hW1, g1, s1, bx⟩ := box7_new w x.I x.O x.S a3 x.F.length c3 a4 x.N.length c4 a5 x.Y.length c5 a6 x.E.length c6
  have HW1 : Hid (W1 = _) := hW1
  have G1 : Hid (w.grownBy W1 none) := g1
  have HT : Hid (TnAt W1 x a3 a4 a5 a6) := h.grown g1
  have HX : Hid (∀ W, W1.grownBy W none → Box7 W w.heap.size x.I x.O x.S a3 x.F.length c3 a4 x.N.length c4 a5 x.Y.length c5 a6 x.E.length c6) := fun W hW => bx.grown hW
  have HI : Hid (Ints W1 au (nsT us)) := hi.grown g1
  have HR : Hid (ReadT x I) := hr
  have HU : Hid (∀ l ∈ us, l < I) := hu
  have HY : Hid (x.Y.length = x.N.length) := hr.hy
  obtain ⟨Po, hPo⟩ : ∃ P, P = AlongP x q us w := ⟨_, rfl⟩
  have HP : Hid (∀ a c W, OwnW W1 W a c (ruT x q us) → Po (.returned (.tuple #[.slice a (ruT x q us).length c, .int .i64 ((goT x q us : Nat) : Int)])) W) := fun a c W h1 => by
    rw [hPo]; exact ⟨a, c, rfl, h1.ints, grown_trans G1.out h1.gr, fun y hy => Nat.le_trans G1.out.size (h1.new y hy)⟩
  rw [← hPo]
  clear hW1 g1 s1 bx h hPo hi hr hu
  go_enter Try.func36, Try.ntmps36
  go_wp2_with fail
  rw [← HW1.out]
  go_loopw [12, 6, 1] (fun v v6 v1 W => ∃ k : Nat, k ≤ us.length ∧ v = .int .i64 k ∧ AlSt x q us W1 k v6 v1 W) (fun v _ _ _ => us.length - (intOf v).toNat)
  case atStart => exact ⟨0, Nat.zero_le _, rfl, none, 0, rfl, rfl, OwnW.nil (grown_refl _ _)⟩
  case round =>
    obtain ⟨k, hk, rfl, a, c, rfl, rfl, ho⟩ := hrel
    have HO : Hid (OwnW W1 wr a c (ruT x q (us.take k))) := ho
    clear ho
    by_cases hlt : k < us.length
    · have ik : (k : Int) < (us.length : Int) := by omega
      have hp : goT x q (us.take k) < x.N.length := HR.out.go _ (fun l hl' => HU.out l (List.mem_of_mem_take hl')) hq
      have hu : us.getD k 0 < I := HU.out _ (mem_getD hlt)
      have hlen := HR.out.len (us.take k) (fun l hl' => HU.out l (List.mem_of_mem_take hl')) hq
      rw [List.length_take] at hlen
      have E1 : Hid _ := goT_take x q hlt
      have E2 : Hid _ := ruT_take x q hlt
      have E3 := nsT_getD hlt
      obtain ⟨zs, hzs⟩ : ∃ zs, ruT x q (us.take k) = zs := ⟨_, rfl⟩
      obtain ⟨p, hpp⟩ : ∃ p, goT x q (us.take k) = p := ⟨_, rfl⟩
      obtain ⟨u, huu⟩ : ∃ u, us.getD k 0 = u := ⟨_, rfl⟩
      rw [hzs] at HO E2 hlen
      rw [hpp] at hp E1 E2
      rw [huu] at hu E1 E2 E3
      simp only [hzs, hpp]
      clear hzs hpp huu
      obtain ⟨b5, o5, k5, b6, o6, k6, r6, rfl, h8, hs5⟩ := read_say HT.out HR.out hp hu
      obtain ⟨b4, o4, k4, b, o, rfl, hs4⟩ := read_next HT.out HR.out hp hu
      obtain ⟨bu, ou, rfl, hcu⟩ := (HI.out.grown HO.out.gr).at (k := k) (by rw [nsT_len]; exact hlt)
      have cu1 := hcu k (by rw [nsT_len]; exact hlt)
      rw [E3] at cu1
      obtain ⟨c5a, c5b, i5⟩ := hs5 wr HO.out.gr
      obtain ⟨a1, c1, W', hrun, ho'⟩ := HO.out.put (d := k6) i5 (by omega)
      obtain ⟨c4a, c4b⟩ := hs4 W' ho'.gr
      have y5 := (HX.out wr HO.out.gr).b5
      have y4 := (HX.out W' ho'.gr).b4
      have ip : (p : Int) < (x.N.length : Int) := by omega
      have ip5 : (p : Int) < (x.Y.length : Int) := by rw [HY.out]; omega
      have iu : (u : Int) < (I : Int) := by omega
      rw [← E2.out] at ho' hrun
      have F : Hid (AlSt x q us W1 (k + 1) (.slice a1 (ruT x q (us.take (k + 1))).length c1) (.int .i64 ((nxT x p u : Nat) : Int)) W') := ⟨a1, c1, rfl, by rw [E1.out], ho'⟩
      clear hs5 hs4 i5 ho' hcu HO E1 E2 E3 hlen h8 hp hu
      go_wp2_with fail
      go_roundw
      case rel => exact ⟨k + 1, by omega, by go_num, F.out⟩
      case measure => simp [intOf]; omega
    · have ik : ¬ (k : Int) < (us.length : Int) := by omega
      have ek : us.take k = us := List.take_of_length_le (by omega)
      rw [ek] at HO
      simp only [ek]
      have F : Hid (Po (.returned (.tuple #[.slice a (ruT x q us).length c, .int .i64 ((goT x q us : Nat) : Int)])) wr) := HP.out a c wr HO.out
      clear HO ek
      go_wp2_with fail
      first | exact F.out | (go_ret; exact F.out) | exact bodyPost_ret (v := .tuple #[.slice a (ruT x q us).length c, .int .i64 ((goT x q us : Nat) : Int)]) (by simp [results, Try.results36, go_sem]) rfl F.out

end Go.Proofs.Ytodcmlcpicabaaa
