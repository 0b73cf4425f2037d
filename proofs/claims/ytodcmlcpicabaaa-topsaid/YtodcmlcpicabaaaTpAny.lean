/- The program's Least, Behind and Differ, whatever comes in: one contract each. -/
import Derived.Test.YtodcmlcpicabaaaTpCan
import Derived.Test.YtodcmlcpicabaaaTpBehE
import Derived.Test.YtodcmlcpicabaaaTlLeastE
import Derived.Test.YtodcmlcpicabaaaTdDiff
namespace Go.Proofs.Ytodcmlcpicabaaa
open Go.RowKit
set_option linter.unusedVariables false
set_option linter.unusedSimpArgs false

def zT : TrI := ⟨0, 0, 0, [], [], [], []⟩
theorem zT_at (w : World) : TnAt w zT none none none none := ⟨.inl rfl, .inl rfl, .inl rfl, .inl rfl, by show (0 : Nat) ≤ maxLen; unfold maxLen; omega, by show (0 : Nat) ≤ maxLen; unfold maxLen; omega, by show (0 : Nat) ≤ maxLen; unfold maxLen; omega, by show (0 : Nat) ≤ maxLen; unfold maxLen; omega⟩
/-- The least form of something. -/
def Canon (R : TrI) (I : Nat) : Prop := ∃ z m, ReadT z I m ∧ LeastIs z I R
theorem least_io {x R : TrI} {I : Nat} (h : LeastIs x I R) : R.I = (I : Int) ∧ R.O = x.O := by
  obtain ⟨B, k, kd, k2, _, _, _, _, _, _, rfl⟩ := h
  exact ⟨rfl, rfl⟩
theorem canon_one {R Q : TrI} {I : Nat} (h : Canon R I) (k : Canon Q I) (hO : R.O = Q.O) (hs : ∀ us : List Nat, (∀ l, l ∈ us → l < I) → saysT R us = saysT Q us) : R = Q := by
  obtain ⟨x, m, hx, h1⟩ := h
  obtain ⟨y, n, hy, k1⟩ := k
  have h2 := (least_k hx h1).1.says
  have k2 := (least_k hy k1).1.says
  refine can_two hx hy ?_ (fun us hu => ?_) h1 k1
  · rw [← (least_io h1).2, ← (least_io k1).2]; exact hO
  · rw [← h2 us hu, ← k2 us hu]; exact hs us hu
theorem Canon.shp {R : TrI} {I : Nat} (h : Canon R I) : R.Y.length = R.N.length ∧ R.E.length = R.N.length ∧ R.S = 0 := by
  obtain ⟨x, m, hx, h1⟩ := h
  have h2 := (least_k hx h1).1
  exact ⟨h2.shp.hy, h2.shp.he, h2.S'⟩

def LstA (x : TrI) (w : World) (e : Ending) (w' : World) : Prop := ∃ (z : Int) (R : TrI) (a3 a4 a5 a6 : Option Addr) (c3 c4 c5 c6 : Nat), e = .returned (.tuple #[tnV R.I R.O R.S a3 R.F.length c3 a4 R.N.length c4 a5 R.Y.length c5 a6 R.E.length c6, .int .i64 z]) ∧ w.grownBy w' none ∧ TnAt w' R a3 a4 a5 a6 ∧ R.F.length ≤ c3 ∧ (∀ W b, b < w.heap.size → w'.grownBy W (some b) → TnAt W R a3 a4 a5 a6) ∧
  (z = 0 → GoodT x ∧ GoodT R ∧ R.I = x.I ∧ R.O = x.O ∧ LeastIs x x.I.toNat R) ∧ (GoodT x → z ≠ 0 → ∃ L, LeastIs x x.I.toNat L ∧ ¬ LittleT L)
theorem leastA_any (x : TrI) (a3 a4 a5 a6 : Option Addr) (c3 c4 c5 c6 : Nat) (w : World) (h : TnAt w x a3 a4 a5 a6) (hk : CapsAt w a6 x.E) :
    Calls Try.prog 15 #[tnV x.I x.O x.S a3 x.F.length c3 a4 x.N.length c4 a5 x.Y.length c5 a6 x.E.length c6] w (LstA x w) := by
  by_cases hG : GoodT x
  · obtain ⟨I, hxI⟩ : ∃ I : Nat, x.I = (I : Int) := ⟨x.I.toNat, by have := hG.many.1; unfold ManyT at this; omega⟩
    have tI : x.I.toNat = I := by omega
    have hr : ReadT x I := by have := hG.read; rwa [tI] at this
    refine (leastE_good x I a3 a4 a5 a6 c3 c4 c5 c6 w h hk hG hxI).mono ?_
    rintro e w' ⟨B, k, kd, k2, h1, h2, h3, h4, h5, h6, h7, h8⟩
    have hL : LeastIs x I (lstL x I B k kd k2) := ⟨B, k, kd, k2, h1, h2, h3, h4, h5, h6, rfl⟩
    obtain ⟨l1, l2, l3⟩ := lstL_len (x := x) h5
    rcases h8 with ⟨h8, rfl⟩ | ⟨h8, b3, b4, b5, b6, d3, d4, d5, d6, rfl, hT, hcap, hout⟩
    · exact ⟨7, zT, none, none, none, none, 0, 0, 0, 0, rfl, h7, zT_at w', Nat.le_refl _, fun W _ _ _ => zT_at W, fun e => absurd e (by decide), fun _ _ => ⟨_, by rw [tI]; exact hL, h8⟩⟩
    · obtain ⟨hK, hR⟩ := least_k hr hL
      have hg : GoodT (lstL x I B k kd k2) := by
        have hI := hG.many.1
        unfold ManyT at hI
        refine hK.good (by omega) (by omega) hG.many.2 ?_ h8 ((hG.letp hxI).least hr hR)
        have := hK.n6
        have := hG.size.2
        omega
      refine ⟨0, lstL x I B k kd k2, b3, b4, b5, b6, d3, d4, d5, d6, ?_, h7, hT, hcap, hout, fun _ => ⟨hG, hg, hxI.symm, rfl, by rw [tI]; exact hL⟩, fun _ h => absurd rfl h⟩
      rw [l1, l2, l3]
      rfl
  · refine (leastE_bad x a3 a4 a5 a6 c3 c4 c5 c6 w h hG).mono ?_
    rintro e w' ⟨z, rfl, h1, h2, h3⟩
    exact ⟨z, zT, none, none, none, none, 0, 0, 0, 0, rfl, h3, zT_at w', Nat.le_refl _, fun W _ _ _ => zT_at W, fun e => absurd e h2, fun h => absurd h hG⟩

def BehA (x y : TrI) (w : World) (e : Ending) (w' : World) : Prop := ∃ (z : Int) (R : TrI) (a3 a4 a5 a6 : Option Addr) (c3 c4 c5 c6 : Nat), e = .returned (.tuple #[tnV R.I R.O R.S a3 R.F.length c3 a4 R.N.length c4 a5 R.Y.length c5 a6 R.E.length c6, .int .i64 z]) ∧ w.grownBy w' none ∧ TnAt w' R a3 a4 a5 a6 ∧ R.F.length ≤ c3 ∧
  (z = 0 → GoodT x ∧ GoodT y ∧ x.O = y.I ∧ GoodT R ∧ R.I = x.I ∧ R.O = y.O ∧ Canon R x.I.toNat ∧ ∀ us : List Nat, (∀ l, l ∈ us → l < x.I.toNat) → saysT R us = saysT y (tnsT (saysT x us))) ∧
  (GoodT x → GoodT y → x.O = y.I → z ≠ 0 → ∃ L, Canon L x.I.toNat ∧ L.O = y.O ∧ (∀ us : List Nat, (∀ l, l ∈ us → l < x.I.toNat) → saysT L us = saysT y (tnsT (saysT x us))) ∧ ¬ (L.N.length ≤ 6 ∧ LittleT L))
theorem behA_any (x y : TrI) (a3 a4 a5 a6 : Option Addr) (c3 c4 c5 c6 : Nat) (e3 e4 e5 e6 : Option Addr) (d3 d4 d5 d6 : Nat) (w : World) (hx : TnAt w x a3 a4 a5 a6) (hy : TnAt w y e3 e4 e5 e6) :
    Calls Try.prog 6 #[tnV x.I x.O x.S a3 x.F.length c3 a4 x.N.length c4 a5 x.Y.length c5 a6 x.E.length c6, tnV y.I y.O y.S e3 y.F.length d3 e4 y.N.length d4 e5 y.Y.length d5 e6 y.E.length d6] w (BehA x y w) := by
  by_cases hG : GoodT x ∧ GoodT y ∧ x.O = y.I
  · obtain ⟨hGx, hGy, hO⟩ := hG
    obtain ⟨I, hxI⟩ : ∃ I : Nat, x.I = (I : Int) := ⟨x.I.toNat, by have := hGx.many.1; unfold ManyT at this; omega⟩
    have tI : x.I.toNat = I := by omega
    have hB : BehG x y I y.I.toNat := by have := beh_good hGx hGy hO; rwa [tI] at this
    refine (behE_good x y I a3 a4 a5 a6 c3 c4 c5 c6 e3 e4 e5 e6 d3 d4 d5 d6 w hx hy hGx hGy hO hxI).mono ?_
    rintro e w' ⟨k0, B, k, kd, k2, h1, h1b, h2, h3, h4⟩
    have hin : ∀ q, q ∈ bfsL id (bD x y) I (bX x y) k0 → q < x.N.length * y.N.length := bfsL_lt id (fun s a hs ha => hB.d hs ha) hB.x0 k0
    have hrd : ReadT (behY x y I k0) I 72 := beh_read hB h1 hin
    have hL : LeastIs (behY x y I k0) I (lstL (behY x y I k0) I B k kd k2) := ⟨B, k, kd, k2, h2.sure, h2.e1, h2.kn, h2.kind, h2.e2, h2.k2n, rfl⟩
    obtain ⟨l1, l2, l3⟩ := lstL_lenB (x := behY x y I k0) h2.e2
    obtain ⟨hK, hR⟩ := least_k hrd hL
    have hsay : ∀ us : List Nat, (∀ l, l ∈ us → l < I) → saysT (lstL (behY x y I k0) I B k kd k2) us = saysT y (tnsT (saysT x us)) := fun us hu => (hK.says us hu).trans (beh_says hB h1 us hu)
    rcases h4 with ⟨h4, rfl⟩ | ⟨h4, h5, b3, b4, b5, b6, n3, n4, n5, n6, rfl, hT, hcap⟩
    · exact ⟨7, zT, none, none, none, none, 0, 0, 0, 0, rfl, h3, zT_at w', Nat.le_refl _, fun e => absurd e (by decide), fun _ _ _ _ => ⟨lstL (behY x y I k0) I B k kd k2, by rw [tI]; exact ⟨_, _, hrd, hL⟩, rfl, by rw [tI]; exact hsay, by rw [l1]; exact h4⟩⟩
    · have hg : GoodT (lstL (behY x y I k0) I B k kd k2) := by
        have hI := hGx.many.1
        unfold ManyT at hI
        have hM : y.I = ((y.I.toNat : Nat) : Int) := by have := hGy.many.1; unfold ManyT at this; omega
        exact hK.good (by omega) (by omega) hGy.many.2 (by rw [l1]; exact h4) h5 ((beh_let hB (hGy.letp hM) h1).least hrd hR)
      refine ⟨0, lstL (behY x y I k0) I B k kd k2, b3, b4, b5, b6, n3, n4, n5, n6, ?_, h3, hT, hcap, fun _ => ⟨hGx, hGy, hO, hg, hxI.symm, rfl, by rw [tI]; exact ⟨_, _, hrd, hL⟩, by rw [tI]; exact hsay⟩, fun _ _ _ h => absurd rfl h⟩
      rw [l1, l2, l3]
      rfl
  · refine (behE_bad x y a3 a4 a5 a6 c3 c4 c5 c6 e3 e4 e5 e6 d3 d4 d5 d6 w hx hy hG).mono ?_
    rintro e w' ⟨z, rfl, h1, h2⟩
    have hz : z ≠ 0 := by
      rcases h1 with ⟨_, h⟩ | ⟨_, _, _, h⟩
      · exact h
      · omega
    exact ⟨z, zT, none, none, none, none, 0, 0, 0, 0, rfl, h2, zT_at w', Nat.le_refl _, fun e => absurd e hz, fun a b c => absurd ⟨a, b, c⟩ hG⟩

def DifA (x y : TrI) (w : World) (e : Ending) (w' : World) : Prop := ∃ (z : Int) (b : Bool) (a : Option Addr) (n c : Nat), e = .returned (.tuple #[.slice a n c, .bool b, .int .i64 z]) ∧ w.grownBy w' none ∧
  (z = 0 → GoodT x ∧ GoodT y ∧ x.I = y.I ∧ x.O = y.O ∧ (b = true ↔ ∃ us : List Nat, (∀ l, l ∈ us → l < x.I.toNat) ∧ saysT x us ≠ saysT y us)) ∧ (GoodT x → GoodT y → x.I = y.I → x.O = y.O → z = 0)
theorem difA_any (x y : TrI) (a3 a4 a5 a6 : Option Addr) (c3 c4 c5 c6 : Nat) (e3 e4 e5 e6 : Option Addr) (d3 d4 d5 d6 : Nat) (w : World) (hx : TnAt w x a3 a4 a5 a6) (hy : TnAt w y e3 e4 e5 e6) (hcx : x.F.length ≤ c3) (hcy : y.F.length ≤ d3) :
    Calls Try.prog 17 #[tnV x.I x.O x.S a3 x.F.length c3 a4 x.N.length c4 a5 x.Y.length c5 a6 x.E.length c6, tnV y.I y.O y.S e3 y.F.length d3 e4 y.N.length d4 e5 y.Y.length d5 e6 y.E.length d6] w (DifA x y w) := by
  refine (differ_any x y a3 a4 a5 a6 c3 c4 c5 c6 e3 e4 e5 e6 d3 d4 d5 d6 w hx hy hcx hcy).mono ?_
  intro e w' h
  rcases h with ⟨z, h1, h2, rfl, g⟩ | ⟨h1, h2, rfl, g⟩ | ⟨h1, h2, v, a, c, h3, h4, h5, h6, rfl, g⟩ | ⟨h1, h2, h3, rfl, g⟩
  · exact ⟨z, false, none, 0, 0, rfl, g, fun e => absurd e h2, fun a b _ _ => (h1.all h1).2.2 ⟨a, b⟩⟩
  · exact ⟨3, false, none, 0, 0, rfl, g, fun e => absurd e (by decide), fun _ _ a b => absurd ⟨a, b⟩ h2⟩
  · refine ⟨0, true, a, v.length, c, rfl, g, fun _ => ⟨h1.1, h1.2, h2.1, h2.2, fun _ => ?_, fun _ => rfl⟩, fun _ _ _ _ => rfl⟩
    obtain ⟨i, ws, S, _, _, _, hn⟩ := h3
    exact ⟨v, h6, hn⟩
  · refine ⟨0, false, none, 0, 0, rfl, g, fun _ => ⟨h1.1, h1.2, h2.1, h2.2, (fun e => by cases e), fun ⟨us, hu, hn⟩ => ?_⟩, fun _ _ _ _ => rfl⟩
    have hr : ReadT y x.I.toNat := by rw [h2.1]; exact h1.2.read
    exact absurd (h3.all hr us hu) hn

end Go.Proofs.Ytodcmlcpicabaaa
