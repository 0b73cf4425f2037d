/- What Check answers, end by end. Without the program. (Parted from TnChk.) -/
import Derived.Test.YtdajdnilhjcniaaTnSpec
namespace Go.Proofs.Ytdajdnilhjcniaa
set_option linter.unusedVariables false

def ChkP (x : TrI) (w : World) (e : Ending) (w' : World) : Prop := ∃ z, e = .returned (.int .i64 z) ∧ ChkIs x z ∧ w.grownBy w' none
theorem chk_many {x : TrI} (h : ¬ (ManyT x.I ∧ ManyT x.O)) : ChkIs x 2 := ⟨fun _ => rfl, fun k => absurd k h, fun k => absurd k h, fun k => absurd k h, fun k => absurd k h, fun k => absurd k h, fun k => absurd k h⟩
theorem chk_size {x : TrI} (h1 : ManyT x.I ∧ ManyT x.O) (h : ¬ SizeT x) : ChkIs x 1 := ⟨fun k => absurd h1 k, fun _ _ => rfl, fun _ k => absurd k h, fun _ k => absurd k h, fun _ k => absurd k h, fun _ k => absurd k h, fun _ k => absurd k h⟩
theorem chk_shape {x : TrI} (h1 : ManyT x.I ∧ ManyT x.O) (h2 : SizeT x) (h : ¬ ShapeT x) : ChkIs x 3 := ⟨fun k => absurd h1 k, fun _ k => absurd h2 k, fun _ _ _ => rfl, fun _ _ k => absurd k h, fun _ _ k => absurd k h, fun _ _ k => absurd k h, fun _ _ k => absurd k h⟩
theorem chk_with {x : TrI} (h1 : ManyT x.I ∧ ManyT x.O) (h2 : SizeT x) (h3 : ShapeT x) (h : ¬ WithT x) : ChkIs x 2 := ⟨fun k => absurd h1 k, fun _ k => absurd h2 k, fun _ _ k => absurd h3 k, fun _ _ _ _ => rfl, fun _ _ _ k => absurd k h, fun _ _ _ k => absurd k h, fun _ _ _ k => absurd k h⟩
theorem chk_little {x : TrI} (h1 : ManyT x.I ∧ ManyT x.O) (h2 : SizeT x) (h3 : ShapeT x) (h4 : WithT x) (h : ¬ LittleT x) : ChkIs x 1 := ⟨fun k => absurd h1 k, fun _ k => absurd h2 k, fun _ _ k => absurd h3 k, fun _ _ _ k => absurd h4 k, fun _ _ _ _ _ => rfl, fun _ _ _ _ k => absurd k h, fun _ _ _ _ k => absurd k h⟩
theorem chk_lets {x : TrI} (h1 : ManyT x.I ∧ ManyT x.O) (h2 : SizeT x) (h3 : ShapeT x) (h4 : WithT x) (h5 : LittleT x) (h : ¬ LetsT x) : ChkIs x 2 := ⟨fun k => absurd h1 k, fun _ k => absurd h2 k, fun _ _ k => absurd h3 k, fun _ _ _ k => absurd h4 k, fun _ _ _ _ k => absurd h5 k, fun _ _ _ _ _ _ => rfl, fun _ _ _ _ _ k => absurd k h⟩
theorem chk_good {x : TrI} (h1 : ManyT x.I ∧ ManyT x.O) (h2 : SizeT x) (h3 : ShapeT x) (h4 : WithT x) (h5 : LittleT x) (h : LetsT x) : ChkIs x 0 := ⟨fun k => absurd h1 k, fun _ k => absurd h2 k, fun _ _ k => absurd h3 k, fun _ _ _ k => absurd h4 k, fun _ _ _ _ k => absurd h5 k, fun _ _ _ _ _ k => absurd h k, fun _ _ _ _ _ _ => rfl⟩


end Go.Proofs.Ytdajdnilhjcniaa
