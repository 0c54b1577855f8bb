import Derived.Test.YtcclgodahlinbaaGreatDoorProg
import Derived.WalkKit
import Derived.WalkSpells
import Derived.WalkLawsBesides
import Derived.Laws.ComplexArith
namespace Go.Proofs.YtcclgodahlinbaaGreatDoor
open Go.RowKit Go

/-- a number as a float's bits -/
def fl (k : Nat) : Nat := floatOfInt .f64 k

def flOk (k : Nat) : Bool :=
  (floatToIntVal .f64 (fl k) .i64 == some (k : Int)) && (floatBits .add .f64 (fl k) 4607182418800017408 == some (fl (k + 1))) && (floatBits .add .f64 (fl k) 0 == some (fl k)) &&
  (floatBits .sub .f64 (fl (k + 1)) 4607182418800017408 == some (fl k)) && (floatBits .sub .f64 (fl k) 0 == some (fl k))

theorem fl_all : (List.range 210).all flOk = true := by kernel_rfl

theorem fl_ok (k : Nat) (h : k < 210) : flOk k = true := List.all_eq_true.1 fl_all k (List.mem_range.2 h)

theorem fl_int {k : Nat} (h : k < 210) : floatToIntVal .f64 (fl k) .i64 = some (k : Int) := by
  have := fl_ok k h; simp [flOk] at this; exact this.1.1.1.1
theorem fl_add1 {k : Nat} (h : k < 210) : floatBits .add .f64 (fl k) 4607182418800017408 = some (fl (k + 1)) := by
  have := fl_ok k h; simp [flOk] at this; exact this.1.1.1.2
theorem fl_add0 {k : Nat} (h : k < 210) : floatBits .add .f64 (fl k) 0 = some (fl k) := by
  have := fl_ok k h; simp [flOk] at this; exact this.1.1.2
theorem fl_sub1 {k : Nat} (h : k < 210) : floatBits .sub .f64 (fl (k + 1)) 4607182418800017408 = some (fl k) := by
  have := fl_ok k h; simp [flOk] at this; exact this.1.2
theorem fl_sub0 {k : Nat} (h : k < 210) : floatBits .sub .f64 (fl k) 0 = some (fl k) := by
  have := fl_ok k h; simp [flOk] at this; exact this.2

theorem und108 : (Tryz.prog.underlying 108).isSome = true := by kernel_rfl
theorem und3 : Tryz.prog.underlying 3 = some (.int .i64) := by kernel_rfl

theorem conv_fl {k : Nat} (h : k < 210) (w : World) : (convert 108 3 (.float .f64 (fl k))).run Tryz.prog w = .ok (.int .i64 k) w :=
  run_convert_float_int w 108 3 .f64 .i64 (fl k) k und108 und3 (fl_int h)

theorem cadd_drop {x y : Nat} (hx : x < 210) (hy : y < 210) (w : World) :
    (binOp .add 107 (.complex .f64 (fl x) (fl y)) (.complex .f64 4607182418800017408 0)).run Tryz.prog w = .ok (.complex .f64 (fl (x + 1)) (fl y)) w :=
  run_complex_sum w .add (.inl rfl) _ _ _ _ _ _ _ _ (by simp [cSumBits, fl_add1 hx, fl_add0 hy])
theorem cadd_add {x y : Nat} (hx : x < 210) (hy : y < 210) (w : World) :
    (binOp .add 107 (.complex .f64 (fl x) (fl y)) (.complex .f64 0 4607182418800017408)).run Tryz.prog w = .ok (.complex .f64 (fl x) (fl (y + 1))) w :=
  run_complex_sum w .add (.inl rfl) _ _ _ _ _ _ _ _ (by simp [cSumBits, fl_add0 hx, fl_add1 hy])
theorem cadd_keep {x y : Nat} (hx : x < 210) (hy : y < 210) (w : World) :
    (binOp .add 107 (.complex .f64 (fl x) (fl y)) (.complex .f64 4607182418800017408 4607182418800017408)).run Tryz.prog w = .ok (.complex .f64 (fl (x + 1)) (fl (y + 1))) w :=
  run_complex_sum w .add (.inl rfl) _ _ _ _ _ _ _ _ (by simp [cSumBits, fl_add1 hx, fl_add1 hy])
theorem csub_drop {x y : Nat} (hx : x < 210) (hy : y < 210) (w : World) :
    (binOp .sub 107 (.complex .f64 (fl (x + 1)) (fl y)) (.complex .f64 4607182418800017408 0)).run Tryz.prog w = .ok (.complex .f64 (fl x) (fl y)) w :=
  run_complex_sum w .sub (.inr rfl) _ _ _ _ _ _ _ _ (by simp [cSumBits, fl_sub1 hx, fl_sub0 hy])
theorem csub_add {x y : Nat} (hx : x < 210) (hy : y < 210) (w : World) :
    (binOp .sub 107 (.complex .f64 (fl x) (fl (y + 1))) (.complex .f64 0 4607182418800017408)).run Tryz.prog w = .ok (.complex .f64 (fl x) (fl y)) w :=
  run_complex_sum w .sub (.inr rfl) _ _ _ _ _ _ _ _ (by simp [cSumBits, fl_sub0 hx, fl_sub1 hy])
theorem csub_keep {x y : Nat} (hx : x < 210) (hy : y < 210) (w : World) :
    (binOp .sub 107 (.complex .f64 (fl (x + 1)) (fl (y + 1))) (.complex .f64 4607182418800017408 4607182418800017408)).run Tryz.prog w = .ok (.complex .f64 (fl x) (fl y)) w :=
  run_complex_sum w .sub (.inr rfl) _ _ _ _ _ _ _ _ (by simp [cSumBits, fl_sub1 hx, fl_sub1 hy])

theorem fl_zero : fl 0 = 0 := by kernel_rfl

def flNe (k : Nat) : Bool := (FloatKind.f64.decode (fl k)).toInt .zero == some (k : Int)
end Go.Proofs.YtcclgodahlinbaaGreatDoor
