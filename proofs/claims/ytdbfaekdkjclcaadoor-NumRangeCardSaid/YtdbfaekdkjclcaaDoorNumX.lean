
/-
  'find' and 'Wrap' of package num: the value of an operator modulo 2^64, and whether there is one.
-/
import Derived.Test.YtdbfaekdkjclcaaDoorNumW
namespace Go.Proofs.YtdbfaekdkjclcaaDoor
open Go Go.RowKit

/-- The value of an operator modulo 2^64, where there is one (a divisor is not 0). -/
def opVal (op a b : Int) : Int :=
  if op = 1 then wrap64 (a + b) else
  if op = 2 then wrap64 (a - b) else
  if op = 3 then wrap64 (a * b) else
  if op = 4 then wrap64 (a.tdiv b) else
  if op = 5 then a.tmod b else
  if op = 6 then modV a b else
  if op = 7 then tv (a == b) else
  if op = 8 then tv (!(a == b)) else
  if op = 9 then tv (decide (a < b)) else
  if op = 10 then tv (decide (a ≤ b)) else
  if op = 11 then tv (decide (b < a)) else
  if op = 12 then tv (decide (b ≤ a)) else
  if op = 13 then bits .and .i64 a b else
  if op = 14 then bits .or .i64 a b else
  if op = 15 then bits .xor .i64 a b else
  if op = 16 then wrap64 (0 - a) else
  if op = 17 then absV a else
  if op = 18 then wrap64 (1 - a) else
  0
/-- Is that the exact value? -/
def opFits (op a b : Int) : Bool :=
  if op = 1 then addFits a b else
  if op = 2 then subFits a b else
  if op = 3 then mulFits a b else
  if op = 4 then divFits a b else
  if op = 16 then subFits 0 a else
  if op = 17 then absFits a else
  if op = 18 then subFits 1 a else
  true
/-- Is there a value? -/
def opHas (op b : Int) : Bool := decide (1 ≤ op ∧ op ≤ 18 ∧ ¬ (4 ≤ op ∧ op ≤ 6 ∧ b = 0))
def wrapV (op a b : Int) : Int := if opHas op b = true then opVal op a b else 0

theorem opVal_1 (a b : Int) : opVal 1 a b = wrap64 (a + b) := rfl
theorem opVal_2 (a b : Int) : opVal 2 a b = wrap64 (a - b) := rfl
theorem opVal_3 (a b : Int) : opVal 3 a b = wrap64 (a * b) := rfl
theorem opVal_4 (a b : Int) : opVal 4 a b = wrap64 (a.tdiv b) := rfl
theorem opVal_5 (a b : Int) : opVal 5 a b = a.tmod b := rfl
theorem opVal_6 (a b : Int) : opVal 6 a b = modV a b := rfl
theorem opVal_7 (a b : Int) : opVal 7 a b = tv (a == b) := rfl
theorem opVal_8 (a b : Int) : opVal 8 a b = tv (!(a == b)) := rfl
theorem opVal_9 (a b : Int) : opVal 9 a b = tv (decide (a < b)) := rfl
theorem opVal_10 (a b : Int) : opVal 10 a b = tv (decide (a ≤ b)) := rfl
theorem opVal_11 (a b : Int) : opVal 11 a b = tv (decide (b < a)) := rfl
theorem opVal_12 (a b : Int) : opVal 12 a b = tv (decide (b ≤ a)) := rfl
theorem opVal_13 (a b : Int) : opVal 13 a b = bits .and .i64 a b := rfl
theorem opVal_14 (a b : Int) : opVal 14 a b = bits .or .i64 a b := rfl
theorem opVal_15 (a b : Int) : opVal 15 a b = bits .xor .i64 a b := rfl
theorem opVal_16 (a b : Int) : opVal 16 a b = wrap64 (0 - a) := rfl
theorem opVal_17 (a b : Int) : opVal 17 a b = absV a := rfl
theorem opVal_18 (a b : Int) : opVal 18 a b = wrap64 (1 - a) := rfl

/-- Every operator that exists is one of eighteen. -/
theorem op_cases {op : Int} (h1 : 1 ≤ op) (h2 : op ≤ 18) : op = 1 ∨ op = 2 ∨ op = 3 ∨ op = 4 ∨ op = 5 ∨ op = 6 ∨ op = 7 ∨ op = 8 ∨ op = 9 ∨ op = 10 ∨ op = 11 ∨ op = 12 ∨ op = 13 ∨ op = 14 ∨ op = 15 ∨ op = 16 ∨ op = 17 ∨ op = 18 := by omega

theorem find_1 (w : World) : Calls Tryd.prog 17 #[.int .u8 1] w (Gives w (.func (.func 72) #[] #[])) := by
  go_enter Tryd.func17, Tryd.ntmps17
  go_wp2_with (first | (go_at_call 48; refine (arithmetic_1 _).mono ?_; rintro e w' ⟨rfl, hb⟩) | go_in)
  go_returns
  exact ⟨rfl, by (repeat' (first | (with_reducible exact Below.refl _ _) | (with_reducible assumption) | (with_reducible refine boxed ?_ _) | (with_reducible refine Below.drew ?_) | (with_reducible refine after ?_ (by assumption))))⟩
theorem find_2 (w : World) : Calls Tryd.prog 17 #[.int .u8 2] w (Gives w (.func (.func 68) #[] #[])) := by
  go_enter Tryd.func17, Tryd.ntmps17
  go_wp2_with (first | (go_at_call 48; refine (arithmetic_2 _).mono ?_; rintro e w' ⟨rfl, hb⟩) | go_in)
  go_returns
  exact ⟨rfl, by (repeat' (first | (with_reducible exact Below.refl _ _) | (with_reducible assumption) | (with_reducible refine boxed ?_ _) | (with_reducible refine Below.drew ?_) | (with_reducible refine after ?_ (by assumption))))⟩
theorem find_3 (w : World) : Calls Tryd.prog 17 #[.int .u8 3] w (Gives w (.func (.func 73) #[] #[])) := by
  go_enter Tryd.func17, Tryd.ntmps17
  go_wp2_with (first | (go_at_call 48; refine (arithmetic_3 _).mono ?_; rintro e w' ⟨rfl, hb⟩) | go_in)
  go_returns
  exact ⟨rfl, by (repeat' (first | (with_reducible exact Below.refl _ _) | (with_reducible assumption) | (with_reducible refine boxed ?_ _) | (with_reducible refine Below.drew ?_) | (with_reducible refine after ?_ (by assumption))))⟩
theorem find_4 (w : World) : Calls Tryd.prog 17 #[.int .u8 4] w (Gives w (.func (.func 74) #[] #[])) := by
  go_enter Tryd.func17, Tryd.ntmps17
  go_wp2_with (first | (go_at_call 48; refine (arithmetic_4 _).mono ?_; rintro e w' ⟨rfl, hb⟩) | go_in)
  go_returns
  exact ⟨rfl, by (repeat' (first | (with_reducible exact Below.refl _ _) | (with_reducible assumption) | (with_reducible refine boxed ?_ _) | (with_reducible refine Below.drew ?_) | (with_reducible refine after ?_ (by assumption))))⟩
theorem find_5 (w : World) : Calls Tryd.prog 17 #[.int .u8 5] w (Gives w (.func (.func 75) #[] #[])) := by
  go_enter Tryd.func17, Tryd.ntmps17
  go_wp2_with (first | (go_at_call 48; refine (arithmetic_5 _).mono ?_; rintro e w' ⟨rfl, hb⟩) | go_in)
  go_returns
  exact ⟨rfl, by (repeat' (first | (with_reducible exact Below.refl _ _) | (with_reducible assumption) | (with_reducible refine boxed ?_ _) | (with_reducible refine Below.drew ?_) | (with_reducible refine after ?_ (by assumption))))⟩
theorem find_6 (w : World) : Calls Tryd.prog 17 #[.int .u8 6] w (Gives w (.func (.func 76) #[] #[])) := by
  go_enter Tryd.func17, Tryd.ntmps17
  go_wp2_with (first | (go_at_call 48; refine (arithmetic_6 _).mono ?_; rintro e w' ⟨rfl, hb⟩) | go_in)
  go_returns
  exact ⟨rfl, by (repeat' (first | (with_reducible exact Below.refl _ _) | (with_reducible assumption) | (with_reducible refine boxed ?_ _) | (with_reducible refine Below.drew ?_) | (with_reducible refine after ?_ (by assumption))))⟩
theorem find_7 (w : World) : Calls Tryd.prog 17 #[.int .u8 7] w (Gives w (.func (.func 57) #[] #[])) := by
  go_enter Tryd.func17, Tryd.ntmps17
  go_wp2_with (first | (go_at_call 45; refine (relation_7 _).mono ?_; rintro e w' ⟨rfl, hb⟩) | go_in)
  go_returns
  exact ⟨rfl, by (repeat' (first | (with_reducible exact Below.refl _ _) | (with_reducible assumption) | (with_reducible refine boxed ?_ _) | (with_reducible refine Below.drew ?_) | (with_reducible refine after ?_ (by assumption))))⟩
theorem find_8 (w : World) : Calls Tryd.prog 17 #[.int .u8 8] w (Gives w (.func (.func 59) #[] #[])) := by
  go_enter Tryd.func17, Tryd.ntmps17
  go_wp2_with (first | (go_at_call 45; refine (relation_8 _).mono ?_; rintro e w' ⟨rfl, hb⟩) | go_in)
  go_returns
  exact ⟨rfl, by (repeat' (first | (with_reducible exact Below.refl _ _) | (with_reducible assumption) | (with_reducible refine boxed ?_ _) | (with_reducible refine Below.drew ?_) | (with_reducible refine after ?_ (by assumption))))⟩
theorem find_9 (w : World) : Calls Tryd.prog 17 #[.int .u8 9] w (Gives w (.func (.func 60) #[] #[])) := by
  go_enter Tryd.func17, Tryd.ntmps17
  go_wp2_with (first | (go_at_call 45; refine (relation_9 _).mono ?_; rintro e w' ⟨rfl, hb⟩) | go_in)
  go_returns
  exact ⟨rfl, by (repeat' (first | (with_reducible exact Below.refl _ _) | (with_reducible assumption) | (with_reducible refine boxed ?_ _) | (with_reducible refine Below.drew ?_) | (with_reducible refine after ?_ (by assumption))))⟩
theorem find_10 (w : World) : Calls Tryd.prog 17 #[.int .u8 10] w (Gives w (.func (.func 61) #[] #[])) := by
  go_enter Tryd.func17, Tryd.ntmps17
  go_wp2_with (first | (go_at_call 45; refine (relation_10 _).mono ?_; rintro e w' ⟨rfl, hb⟩) | go_in)
  go_returns
  exact ⟨rfl, by (repeat' (first | (with_reducible exact Below.refl _ _) | (with_reducible assumption) | (with_reducible refine boxed ?_ _) | (with_reducible refine Below.drew ?_) | (with_reducible refine after ?_ (by assumption))))⟩
theorem find_11 (w : World) : Calls Tryd.prog 17 #[.int .u8 11] w (Gives w (.func (.func 62) #[] #[])) := by
  go_enter Tryd.func17, Tryd.ntmps17
  go_wp2_with (first | (go_at_call 45; refine (relation_11 _).mono ?_; rintro e w' ⟨rfl, hb⟩) | go_in)
  go_returns
  exact ⟨rfl, by (repeat' (first | (with_reducible exact Below.refl _ _) | (with_reducible assumption) | (with_reducible refine boxed ?_ _) | (with_reducible refine Below.drew ?_) | (with_reducible refine after ?_ (by assumption))))⟩
theorem find_12 (w : World) : Calls Tryd.prog 17 #[.int .u8 12] w (Gives w (.func (.func 63) #[] #[])) := by
  go_enter Tryd.func17, Tryd.ntmps17
  go_wp2_with (first | (go_at_call 45; refine (relation_12 _).mono ?_; rintro e w' ⟨rfl, hb⟩) | go_in)
  go_returns
  exact ⟨rfl, by (repeat' (first | (with_reducible exact Below.refl _ _) | (with_reducible assumption) | (with_reducible refine boxed ?_ _) | (with_reducible refine Below.drew ?_) | (with_reducible refine after ?_ (by assumption))))⟩
theorem find_13 (w : World) : Calls Tryd.prog 17 #[.int .u8 13] w (Gives w (.func (.func 64) #[] #[])) := by
  go_enter Tryd.func17, Tryd.ntmps17
  go_wp2_with (first | (go_at_call 46; refine (bitwise_13 _).mono ?_; rintro e w' ⟨rfl, hb⟩) | go_in)
  go_returns
  exact ⟨rfl, by (repeat' (first | (with_reducible exact Below.refl _ _) | (with_reducible assumption) | (with_reducible refine boxed ?_ _) | (with_reducible refine Below.drew ?_) | (with_reducible refine after ?_ (by assumption))))⟩
theorem find_14 (w : World) : Calls Tryd.prog 17 #[.int .u8 14] w (Gives w (.func (.func 65) #[] #[])) := by
  go_enter Tryd.func17, Tryd.ntmps17
  go_wp2_with (first | (go_at_call 46; refine (bitwise_14 _).mono ?_; rintro e w' ⟨rfl, hb⟩) | go_in)
  go_returns
  exact ⟨rfl, by (repeat' (first | (with_reducible exact Below.refl _ _) | (with_reducible assumption) | (with_reducible refine boxed ?_ _) | (with_reducible refine Below.drew ?_) | (with_reducible refine after ?_ (by assumption))))⟩
theorem find_15 (w : World) : Calls Tryd.prog 17 #[.int .u8 15] w (Gives w (.func (.func 66) #[] #[])) := by
  go_enter Tryd.func17, Tryd.ntmps17
  go_wp2_with (first | (go_at_call 46; refine (bitwise_15 _).mono ?_; rintro e w' ⟨rfl, hb⟩) | go_in)
  go_returns
  exact ⟨rfl, by (repeat' (first | (with_reducible exact Below.refl _ _) | (with_reducible assumption) | (with_reducible refine boxed ?_ _) | (with_reducible refine Below.drew ?_) | (with_reducible refine after ?_ (by assumption))))⟩
theorem find_16 (w : World) : Calls Tryd.prog 17 #[.int .u8 16] w (Gives w (.func (.func 67) #[] #[])) := by
  go_enter Tryd.func17, Tryd.ntmps17
  go_wp2_with (first | (go_at_call 47; refine (single_16 _).mono ?_; rintro e w' ⟨rfl, hb⟩) | go_in)
  go_returns
  exact ⟨rfl, by (repeat' (first | (with_reducible exact Below.refl _ _) | (with_reducible assumption) | (with_reducible refine boxed ?_ _) | (with_reducible refine Below.drew ?_) | (with_reducible refine after ?_ (by assumption))))⟩
theorem find_17 (w : World) : Calls Tryd.prog 17 #[.int .u8 17] w (Gives w (.func (.func 69) #[] #[])) := by
  go_enter Tryd.func17, Tryd.ntmps17
  go_wp2_with (first | (go_at_call 47; refine (single_17 _).mono ?_; rintro e w' ⟨rfl, hb⟩) | go_in)
  go_returns
  exact ⟨rfl, by (repeat' (first | (with_reducible exact Below.refl _ _) | (with_reducible assumption) | (with_reducible refine boxed ?_ _) | (with_reducible refine Below.drew ?_) | (with_reducible refine after ?_ (by assumption))))⟩
theorem find_18 (w : World) : Calls Tryd.prog 17 #[.int .u8 18] w (Gives w (.func (.func 71) #[] #[])) := by
  go_enter Tryd.func17, Tryd.ntmps17
  go_wp2_with (first | (go_at_call 47; refine (single_18 _).mono ?_; rintro e w' ⟨rfl, hb⟩) | go_in)
  go_returns
  exact ⟨rfl, by (repeat' (first | (with_reducible exact Below.refl _ _) | (with_reducible assumption) | (with_reducible refine boxed ?_ _) | (with_reducible refine Below.drew ?_) | (with_reducible refine after ?_ (by assumption))))⟩
theorem find_no (op : Int) (h : op = 0 ∨ 19 ≤ op) (w : World) : Calls Tryd.prog 17 #[.int .u8 op] w (Gives w .nilFunc) := by
  rcases h with rfl | h
  · go_enter Tryd.func17, Tryd.ntmps17
    go_wp2_with (first | (go_at_call 48; refine (arithmetic_no 0 (by omega) (by omega) (by omega) (by omega) (by omega) (by omega) _).mono ?_; rintro e w' ⟨rfl, hb⟩) | go_in)
    go_returns
    exact ⟨rfl, by (repeat' (first | (with_reducible exact Below.refl _ _) | (with_reducible assumption) | (with_reducible refine boxed ?_ _) | (with_reducible refine Below.drew ?_) | (with_reducible refine after ?_ (by assumption))))⟩
  · go_enter Tryd.func17, Tryd.ntmps17
    go_wp2_with (first | (go_at_call 48; refine (arithmetic_no op (by omega) (by omega) (by omega) (by omega) (by omega) (by omega) _).mono ?_; rintro e w' ⟨rfl, hb⟩) | go_in)
    go_returns
    exact ⟨rfl, by (repeat' (first | (with_reducible exact Below.refl _ _) | (with_reducible assumption) | (with_reducible refine boxed ?_ _) | (with_reducible refine Below.drew ?_) | (with_reducible refine after ?_ (by assumption))))⟩

theorem func_is_nil (f : FuncId) (w : World) : (binOp .eql 41 (.func (.func f) #[] #[]) .nilFunc).run Tryd.prog w = .ok (.bool false) w := by kernel_rfl
theorem nil_is_nil (w : World) : (binOp .eql 41 .nilFunc .nilFunc).run Tryd.prog w = .ok (.bool true) w := by kernel_rfl

/-- THE FUNCTION OF AN OPERATOR, CALLED. -/
def OpGives (w : World) (op a b : Int) : Ending → World → Prop := Gives w (.tuple #[.int .i64 (opVal op a b), .bool (opFits op a b)])

theorem op_1 (a b : Int) (w : World) : Calls Tryd.prog 72 #[.int .i64 a, .int .i64 b] w (OpGives w 1 a b) := sum_any a b w
theorem op_2 (a b : Int) (w : World) : Calls Tryd.prog 68 #[.int .i64 a, .int .i64 b] w (OpGives w 2 a b) := difference_any a b w
theorem op_3 (a b : Int) (w : World) : Calls Tryd.prog 73 #[.int .i64 a, .int .i64 b] w (OpGives w 3 a b) := product_any a b w
theorem op_4 (a b : Int) (hb : ¬ b = 0) (w : World) : Calls Tryd.prog 74 #[.int .i64 a, .int .i64 b] w (OpGives w 4 a b) := quotient_any a b hb w
theorem op_5 (a b : Int) (hb : ¬ b = 0) (w : World) : Calls Tryd.prog 75 #[.int .i64 a, .int .i64 b] w (OpGives w 5 a b) := remainder_any a b hb w
theorem op_6 (a b : Int) (hb : ¬ b = 0) (w : World) : Calls Tryd.prog 76 #[.int .i64 a, .int .i64 b] w (OpGives w 6 a b) := modulus_any a b hb w
theorem op_7 (a b : Int) (w : World) : Calls Tryd.prog 57 #[.int .i64 a, .int .i64 b] w (OpGives w 7 a b) := relation1_any a b w
theorem op_8 (a b : Int) (w : World) : Calls Tryd.prog 59 #[.int .i64 a, .int .i64 b] w (OpGives w 8 a b) := relation2_any a b w
theorem op_9 (a b : Int) (w : World) : Calls Tryd.prog 60 #[.int .i64 a, .int .i64 b] w (OpGives w 9 a b) := relation3_any a b w
theorem op_10 (a b : Int) (w : World) : Calls Tryd.prog 61 #[.int .i64 a, .int .i64 b] w (OpGives w 10 a b) := relation4_any a b w
theorem op_11 (a b : Int) (w : World) : Calls Tryd.prog 62 #[.int .i64 a, .int .i64 b] w (OpGives w 11 a b) := relation5_any a b w
theorem op_12 (a b : Int) (w : World) : Calls Tryd.prog 63 #[.int .i64 a, .int .i64 b] w (OpGives w 12 a b) := relation6_any a b w
theorem op_13 (a b : Int) (w : World) : Calls Tryd.prog 64 #[.int .i64 a, .int .i64 b] w (OpGives w 13 a b) := bitwise1_any a b w
theorem op_14 (a b : Int) (w : World) : Calls Tryd.prog 65 #[.int .i64 a, .int .i64 b] w (OpGives w 14 a b) := bitwise2_any a b w
theorem op_15 (a b : Int) (w : World) : Calls Tryd.prog 66 #[.int .i64 a, .int .i64 b] w (OpGives w 15 a b) := bitwise3_any a b w
theorem op_16 (a b : Int) (w : World) : Calls Tryd.prog 67 #[.int .i64 a, .int .i64 b] w (OpGives w 16 a b) := single1_any a b w
theorem op_17 (a b : Int) (w : World) : Calls Tryd.prog 69 #[.int .i64 a, .int .i64 b] w (OpGives w 17 a b) := single2_any a b w
theorem op_18 (a b : Int) (w : World) : Calls Tryd.prog 71 #[.int .i64 a, .int .i64 b] w (OpGives w 18 a b) := single3_any a b w

theorem wrap_1 (a b : Int) (w : World) : Calls Tryd.prog 16 #[.int .u8 1, .int .i64 a, .int .i64 b] w (Gives w (.tuple #[.int .i64 (opVal 1 a b), .bool true])) := by
  have en := func_is_nil
  go_enter Tryd.func16, Tryd.ntmps16
  go_wp2_with (first | (go_at_call 17; refine (find_1 _).mono ?_; rintro e w' ⟨rfl, hw⟩) | (go_at_call 72; refine (op_1 _ _ _).mono ?_; rintro e w'' ⟨rfl, hw'⟩) | go_in)
  go_returns
  exact ⟨rfl, by (repeat' (first | (with_reducible exact Below.refl _ _) | (with_reducible assumption) | (with_reducible refine boxed ?_ _) | (with_reducible refine Below.drew ?_) | (with_reducible refine after ?_ (by assumption))))⟩
theorem wrap_2 (a b : Int) (w : World) : Calls Tryd.prog 16 #[.int .u8 2, .int .i64 a, .int .i64 b] w (Gives w (.tuple #[.int .i64 (opVal 2 a b), .bool true])) := by
  have en := func_is_nil
  go_enter Tryd.func16, Tryd.ntmps16
  go_wp2_with (first | (go_at_call 17; refine (find_2 _).mono ?_; rintro e w' ⟨rfl, hw⟩) | (go_at_call 68; refine (op_2 _ _ _).mono ?_; rintro e w'' ⟨rfl, hw'⟩) | go_in)
  go_returns
  exact ⟨rfl, by (repeat' (first | (with_reducible exact Below.refl _ _) | (with_reducible assumption) | (with_reducible refine boxed ?_ _) | (with_reducible refine Below.drew ?_) | (with_reducible refine after ?_ (by assumption))))⟩
theorem wrap_3 (a b : Int) (w : World) : Calls Tryd.prog 16 #[.int .u8 3, .int .i64 a, .int .i64 b] w (Gives w (.tuple #[.int .i64 (opVal 3 a b), .bool true])) := by
  have en := func_is_nil
  go_enter Tryd.func16, Tryd.ntmps16
  go_wp2_with (first | (go_at_call 17; refine (find_3 _).mono ?_; rintro e w' ⟨rfl, hw⟩) | (go_at_call 73; refine (op_3 _ _ _).mono ?_; rintro e w'' ⟨rfl, hw'⟩) | go_in)
  go_returns
  exact ⟨rfl, by (repeat' (first | (with_reducible exact Below.refl _ _) | (with_reducible assumption) | (with_reducible refine boxed ?_ _) | (with_reducible refine Below.drew ?_) | (with_reducible refine after ?_ (by assumption))))⟩
theorem wrap_4 (a b : Int) (hb : ¬ b = 0) (w : World) : Calls Tryd.prog 16 #[.int .u8 4, .int .i64 a, .int .i64 b] w (Gives w (.tuple #[.int .i64 (opVal 4 a b), .bool true])) := by
  have en := func_is_nil
  go_enter Tryd.func16, Tryd.ntmps16
  go_wp2_with (first | (go_at_call 17; refine (find_4 _).mono ?_; rintro e w' ⟨rfl, hw⟩) | (go_at_call 74; refine (op_4 _ _ hb _).mono ?_; rintro e w'' ⟨rfl, hw'⟩) | go_in)
  go_returns
  exact ⟨rfl, by (repeat' (first | (with_reducible exact Below.refl _ _) | (with_reducible assumption) | (with_reducible refine boxed ?_ _) | (with_reducible refine Below.drew ?_) | (with_reducible refine after ?_ (by assumption))))⟩
theorem wrap_5 (a b : Int) (hb : ¬ b = 0) (w : World) : Calls Tryd.prog 16 #[.int .u8 5, .int .i64 a, .int .i64 b] w (Gives w (.tuple #[.int .i64 (opVal 5 a b), .bool true])) := by
  have en := func_is_nil
  go_enter Tryd.func16, Tryd.ntmps16
  go_wp2_with (first | (go_at_call 17; refine (find_5 _).mono ?_; rintro e w' ⟨rfl, hw⟩) | (go_at_call 75; refine (op_5 _ _ hb _).mono ?_; rintro e w'' ⟨rfl, hw'⟩) | go_in)
  go_returns
  exact ⟨rfl, by (repeat' (first | (with_reducible exact Below.refl _ _) | (with_reducible assumption) | (with_reducible refine boxed ?_ _) | (with_reducible refine Below.drew ?_) | (with_reducible refine after ?_ (by assumption))))⟩
theorem wrap_6 (a b : Int) (hb : ¬ b = 0) (w : World) : Calls Tryd.prog 16 #[.int .u8 6, .int .i64 a, .int .i64 b] w (Gives w (.tuple #[.int .i64 (opVal 6 a b), .bool true])) := by
  have en := func_is_nil
  go_enter Tryd.func16, Tryd.ntmps16
  go_wp2_with (first | (go_at_call 17; refine (find_6 _).mono ?_; rintro e w' ⟨rfl, hw⟩) | (go_at_call 76; refine (op_6 _ _ hb _).mono ?_; rintro e w'' ⟨rfl, hw'⟩) | go_in)
  go_returns
  exact ⟨rfl, by (repeat' (first | (with_reducible exact Below.refl _ _) | (with_reducible assumption) | (with_reducible refine boxed ?_ _) | (with_reducible refine Below.drew ?_) | (with_reducible refine after ?_ (by assumption))))⟩
theorem wrap_7 (a b : Int) (w : World) : Calls Tryd.prog 16 #[.int .u8 7, .int .i64 a, .int .i64 b] w (Gives w (.tuple #[.int .i64 (opVal 7 a b), .bool true])) := by
  have en := func_is_nil
  go_enter Tryd.func16, Tryd.ntmps16
  go_wp2_with (first | (go_at_call 17; refine (find_7 _).mono ?_; rintro e w' ⟨rfl, hw⟩) | (go_at_call 57; refine (op_7 _ _ _).mono ?_; rintro e w'' ⟨rfl, hw'⟩) | go_in)
  go_returns
  exact ⟨rfl, by (repeat' (first | (with_reducible exact Below.refl _ _) | (with_reducible assumption) | (with_reducible refine boxed ?_ _) | (with_reducible refine Below.drew ?_) | (with_reducible refine after ?_ (by assumption))))⟩
theorem wrap_8 (a b : Int) (w : World) : Calls Tryd.prog 16 #[.int .u8 8, .int .i64 a, .int .i64 b] w (Gives w (.tuple #[.int .i64 (opVal 8 a b), .bool true])) := by
  have en := func_is_nil
  go_enter Tryd.func16, Tryd.ntmps16
  go_wp2_with (first | (go_at_call 17; refine (find_8 _).mono ?_; rintro e w' ⟨rfl, hw⟩) | (go_at_call 59; refine (op_8 _ _ _).mono ?_; rintro e w'' ⟨rfl, hw'⟩) | go_in)
  go_returns
  exact ⟨rfl, by (repeat' (first | (with_reducible exact Below.refl _ _) | (with_reducible assumption) | (with_reducible refine boxed ?_ _) | (with_reducible refine Below.drew ?_) | (with_reducible refine after ?_ (by assumption))))⟩
theorem wrap_9 (a b : Int) (w : World) : Calls Tryd.prog 16 #[.int .u8 9, .int .i64 a, .int .i64 b] w (Gives w (.tuple #[.int .i64 (opVal 9 a b), .bool true])) := by
  have en := func_is_nil
  go_enter Tryd.func16, Tryd.ntmps16
  go_wp2_with (first | (go_at_call 17; refine (find_9 _).mono ?_; rintro e w' ⟨rfl, hw⟩) | (go_at_call 60; refine (op_9 _ _ _).mono ?_; rintro e w'' ⟨rfl, hw'⟩) | go_in)
  go_returns
  exact ⟨rfl, by (repeat' (first | (with_reducible exact Below.refl _ _) | (with_reducible assumption) | (with_reducible refine boxed ?_ _) | (with_reducible refine Below.drew ?_) | (with_reducible refine after ?_ (by assumption))))⟩
theorem wrap_10 (a b : Int) (w : World) : Calls Tryd.prog 16 #[.int .u8 10, .int .i64 a, .int .i64 b] w (Gives w (.tuple #[.int .i64 (opVal 10 a b), .bool true])) := by
  have en := func_is_nil
  go_enter Tryd.func16, Tryd.ntmps16
  go_wp2_with (first | (go_at_call 17; refine (find_10 _).mono ?_; rintro e w' ⟨rfl, hw⟩) | (go_at_call 61; refine (op_10 _ _ _).mono ?_; rintro e w'' ⟨rfl, hw'⟩) | go_in)
  go_returns
  exact ⟨rfl, by (repeat' (first | (with_reducible exact Below.refl _ _) | (with_reducible assumption) | (with_reducible refine boxed ?_ _) | (with_reducible refine Below.drew ?_) | (with_reducible refine after ?_ (by assumption))))⟩
theorem wrap_11 (a b : Int) (w : World) : Calls Tryd.prog 16 #[.int .u8 11, .int .i64 a, .int .i64 b] w (Gives w (.tuple #[.int .i64 (opVal 11 a b), .bool true])) := by
  have en := func_is_nil
  go_enter Tryd.func16, Tryd.ntmps16
  go_wp2_with (first | (go_at_call 17; refine (find_11 _).mono ?_; rintro e w' ⟨rfl, hw⟩) | (go_at_call 62; refine (op_11 _ _ _).mono ?_; rintro e w'' ⟨rfl, hw'⟩) | go_in)
  go_returns
  exact ⟨rfl, by (repeat' (first | (with_reducible exact Below.refl _ _) | (with_reducible assumption) | (with_reducible refine boxed ?_ _) | (with_reducible refine Below.drew ?_) | (with_reducible refine after ?_ (by assumption))))⟩
theorem wrap_12 (a b : Int) (w : World) : Calls Tryd.prog 16 #[.int .u8 12, .int .i64 a, .int .i64 b] w (Gives w (.tuple #[.int .i64 (opVal 12 a b), .bool true])) := by
  have en := func_is_nil
  go_enter Tryd.func16, Tryd.ntmps16
  go_wp2_with (first | (go_at_call 17; refine (find_12 _).mono ?_; rintro e w' ⟨rfl, hw⟩) | (go_at_call 63; refine (op_12 _ _ _).mono ?_; rintro e w'' ⟨rfl, hw'⟩) | go_in)
  go_returns
  exact ⟨rfl, by (repeat' (first | (with_reducible exact Below.refl _ _) | (with_reducible assumption) | (with_reducible refine boxed ?_ _) | (with_reducible refine Below.drew ?_) | (with_reducible refine after ?_ (by assumption))))⟩
theorem wrap_13 (a b : Int) (w : World) : Calls Tryd.prog 16 #[.int .u8 13, .int .i64 a, .int .i64 b] w (Gives w (.tuple #[.int .i64 (opVal 13 a b), .bool true])) := by
  have en := func_is_nil
  go_enter Tryd.func16, Tryd.ntmps16
  go_wp2_with (first | (go_at_call 17; refine (find_13 _).mono ?_; rintro e w' ⟨rfl, hw⟩) | (go_at_call 64; refine (op_13 _ _ _).mono ?_; rintro e w'' ⟨rfl, hw'⟩) | go_in)
  go_returns
  exact ⟨rfl, by (repeat' (first | (with_reducible exact Below.refl _ _) | (with_reducible assumption) | (with_reducible refine boxed ?_ _) | (with_reducible refine Below.drew ?_) | (with_reducible refine after ?_ (by assumption))))⟩
theorem wrap_14 (a b : Int) (w : World) : Calls Tryd.prog 16 #[.int .u8 14, .int .i64 a, .int .i64 b] w (Gives w (.tuple #[.int .i64 (opVal 14 a b), .bool true])) := by
  have en := func_is_nil
  go_enter Tryd.func16, Tryd.ntmps16
  go_wp2_with (first | (go_at_call 17; refine (find_14 _).mono ?_; rintro e w' ⟨rfl, hw⟩) | (go_at_call 65; refine (op_14 _ _ _).mono ?_; rintro e w'' ⟨rfl, hw'⟩) | go_in)
  go_returns
  exact ⟨rfl, by (repeat' (first | (with_reducible exact Below.refl _ _) | (with_reducible assumption) | (with_reducible refine boxed ?_ _) | (with_reducible refine Below.drew ?_) | (with_reducible refine after ?_ (by assumption))))⟩
theorem wrap_15 (a b : Int) (w : World) : Calls Tryd.prog 16 #[.int .u8 15, .int .i64 a, .int .i64 b] w (Gives w (.tuple #[.int .i64 (opVal 15 a b), .bool true])) := by
  have en := func_is_nil
  go_enter Tryd.func16, Tryd.ntmps16
  go_wp2_with (first | (go_at_call 17; refine (find_15 _).mono ?_; rintro e w' ⟨rfl, hw⟩) | (go_at_call 66; refine (op_15 _ _ _).mono ?_; rintro e w'' ⟨rfl, hw'⟩) | go_in)
  go_returns
  exact ⟨rfl, by (repeat' (first | (with_reducible exact Below.refl _ _) | (with_reducible assumption) | (with_reducible refine boxed ?_ _) | (with_reducible refine Below.drew ?_) | (with_reducible refine after ?_ (by assumption))))⟩
theorem wrap_16 (a b : Int) (w : World) : Calls Tryd.prog 16 #[.int .u8 16, .int .i64 a, .int .i64 b] w (Gives w (.tuple #[.int .i64 (opVal 16 a b), .bool true])) := by
  have en := func_is_nil
  go_enter Tryd.func16, Tryd.ntmps16
  go_wp2_with (first | (go_at_call 17; refine (find_16 _).mono ?_; rintro e w' ⟨rfl, hw⟩) | (go_at_call 67; refine (op_16 _ _ _).mono ?_; rintro e w'' ⟨rfl, hw'⟩) | go_in)
  go_returns
  exact ⟨rfl, by (repeat' (first | (with_reducible exact Below.refl _ _) | (with_reducible assumption) | (with_reducible refine boxed ?_ _) | (with_reducible refine Below.drew ?_) | (with_reducible refine after ?_ (by assumption))))⟩
theorem wrap_17 (a b : Int) (w : World) : Calls Tryd.prog 16 #[.int .u8 17, .int .i64 a, .int .i64 b] w (Gives w (.tuple #[.int .i64 (opVal 17 a b), .bool true])) := by
  have en := func_is_nil
  go_enter Tryd.func16, Tryd.ntmps16
  go_wp2_with (first | (go_at_call 17; refine (find_17 _).mono ?_; rintro e w' ⟨rfl, hw⟩) | (go_at_call 69; refine (op_17 _ _ _).mono ?_; rintro e w'' ⟨rfl, hw'⟩) | go_in)
  go_returns
  exact ⟨rfl, by (repeat' (first | (with_reducible exact Below.refl _ _) | (with_reducible assumption) | (with_reducible refine boxed ?_ _) | (with_reducible refine Below.drew ?_) | (with_reducible refine after ?_ (by assumption))))⟩
theorem wrap_18 (a b : Int) (w : World) : Calls Tryd.prog 16 #[.int .u8 18, .int .i64 a, .int .i64 b] w (Gives w (.tuple #[.int .i64 (opVal 18 a b), .bool true])) := by
  have en := func_is_nil
  go_enter Tryd.func16, Tryd.ntmps16
  go_wp2_with (first | (go_at_call 17; refine (find_18 _).mono ?_; rintro e w' ⟨rfl, hw⟩) | (go_at_call 71; refine (op_18 _ _ _).mono ?_; rintro e w'' ⟨rfl, hw'⟩) | go_in)
  go_returns
  exact ⟨rfl, by (repeat' (first | (with_reducible exact Below.refl _ _) | (with_reducible assumption) | (with_reducible refine boxed ?_ _) | (with_reducible refine Below.drew ?_) | (with_reducible refine after ?_ (by assumption))))⟩
theorem wrap_no (op a b : Int) (h : op = 0 ∨ 19 ≤ op) (w : World) : Calls Tryd.prog 16 #[.int .u8 op, .int .i64 a, .int .i64 b] w (Gives w (.tuple #[.int .i64 0, .bool false])) := by
  have en := nil_is_nil
  go_enter Tryd.func16, Tryd.ntmps16
  go_wp2_with (first | (go_at_call 17; refine (find_no _ h _).mono ?_; rintro e w' ⟨rfl, hw⟩) | go_in)
  go_returns
  exact ⟨rfl, by (repeat' (first | (with_reducible exact Below.refl _ _) | (with_reducible assumption) | (with_reducible refine boxed ?_ _) | (with_reducible refine Below.drew ?_) | (with_reducible refine after ?_ (by assumption))))⟩
theorem wrap_zero_4 (a : Int) (w : World) : Calls Tryd.prog 16 #[.int .u8 4, .int .i64 a, .int .i64 0] w (Gives w (.tuple #[.int .i64 0, .bool false])) := by
  have en := func_is_nil
  go_enter Tryd.func16, Tryd.ntmps16
  go_wp2_with (first | (go_at_call 17; refine (find_4 _).mono ?_; rintro e w' ⟨rfl, hw⟩) | go_in)
  go_returns
  exact ⟨rfl, by (repeat' (first | (with_reducible exact Below.refl _ _) | (with_reducible assumption) | (with_reducible refine boxed ?_ _) | (with_reducible refine Below.drew ?_) | (with_reducible refine after ?_ (by assumption))))⟩
theorem wrap_zero_5 (a : Int) (w : World) : Calls Tryd.prog 16 #[.int .u8 5, .int .i64 a, .int .i64 0] w (Gives w (.tuple #[.int .i64 0, .bool false])) := by
  have en := func_is_nil
  go_enter Tryd.func16, Tryd.ntmps16
  go_wp2_with (first | (go_at_call 17; refine (find_5 _).mono ?_; rintro e w' ⟨rfl, hw⟩) | go_in)
  go_returns
  exact ⟨rfl, by (repeat' (first | (with_reducible exact Below.refl _ _) | (with_reducible assumption) | (with_reducible refine boxed ?_ _) | (with_reducible refine Below.drew ?_) | (with_reducible refine after ?_ (by assumption))))⟩
theorem wrap_zero_6 (a : Int) (w : World) : Calls Tryd.prog 16 #[.int .u8 6, .int .i64 a, .int .i64 0] w (Gives w (.tuple #[.int .i64 0, .bool false])) := by
  have en := func_is_nil
  go_enter Tryd.func16, Tryd.ntmps16
  go_wp2_with (first | (go_at_call 17; refine (find_6 _).mono ?_; rintro e w' ⟨rfl, hw⟩) | go_in)
  go_returns
  exact ⟨rfl, by (repeat' (first | (with_reducible exact Below.refl _ _) | (with_reducible assumption) | (with_reducible refine boxed ?_ _) | (with_reducible refine Below.drew ?_) | (with_reducible refine after ?_ (by assumption))))⟩

/-- WRAP. -/
theorem wrap_any (op a b : Int) (h0 : 0 ≤ op) (w : World) : Calls Tryd.prog 16 #[.int .u8 op, .int .i64 a, .int .i64 b] w (Gives w (.tuple #[.int .i64 (wrapV op a b), .bool (opHas op b)])) := by
  by_cases h1 : 1 ≤ op ∧ op ≤ 18
  · by_cases hz : 4 ≤ op ∧ op ≤ 6 ∧ b = 0
    · obtain ⟨h4, h6, rfl⟩ := hz
      have e : opHas op 0 = false := by simp [opHas]; omega
      rw [wrapV, if_neg (by simp [e]), e]
      rcases (show op = 4 ∨ op = 5 ∨ op = 6 by omega) with rfl | rfl | rfl
      · exact wrap_zero_4 a w
      · exact wrap_zero_5 a w
      · exact wrap_zero_6 a w
    · have e : opHas op b = true := by simp only [opHas, decide_eq_true_eq]; exact ⟨h1.1, h1.2, hz⟩
      rw [wrapV, if_pos e, e]
      rcases op_cases h1.1 h1.2 with rfl | rfl | rfl | rfl | rfl | rfl | rfl | rfl | rfl | rfl | rfl | rfl | rfl | rfl | rfl | rfl | rfl | rfl
      · exact wrap_1 a b w
      · exact wrap_2 a b w
      · exact wrap_3 a b w
      · exact wrap_4 a b (by omega) w
      · exact wrap_5 a b (by omega) w
      · exact wrap_6 a b (by omega) w
      · exact wrap_7 a b w
      · exact wrap_8 a b w
      · exact wrap_9 a b w
      · exact wrap_10 a b w
      · exact wrap_11 a b w
      · exact wrap_12 a b w
      · exact wrap_13 a b w
      · exact wrap_14 a b w
      · exact wrap_15 a b w
      · exact wrap_16 a b w
      · exact wrap_17 a b w
      · exact wrap_18 a b w
  · have e : opHas op b = false := by simp [opHas]; omega
    rw [wrapV, if_neg (by simp [e]), e]
    exact wrap_no op a b (by omega) w

end Go.Proofs.YtdbfaekdkjclcaaDoor
