/-
  Powers and logarithms of 65 times 65 pairs of arguments, reckoned by the kernel. No conditions.
-/
import Derived.Test.YtmgmelbpggedkadExpW
namespace Flt
open Go
/-- the arguments: from -8 to 8 by eighths -/
def XT : List Nat := [
  3238002688, 3237740544, 3237478400, 3237216256, 3236954112, 3236691968, 3236429824, 3236167680, 3235905536, 3235643392, 3235381248, 3235119104, 3234856960, 3234594816, 3234332672, 3234070528,
  3233808384, 3233546240, 3233284096, 3233021952, 3232759808, 3232497664, 3232235520, 3231973376, 3231711232, 3231449088, 3231186944, 3230924800, 3230662656, 3230400512, 3230138368, 3229876224,
  3229614080, 3229089792, 3228565504, 3228041216, 3227516928, 3226992640, 3226468352, 3225944064, 3225419776, 3224895488, 3224371200, 3223846912, 3223322624, 3222798336, 3222274048, 3221749760,
  3221225472, 3220176896, 3219128320, 3218079744, 3217031168, 3215982592, 3214934016, 3213885440, 3212836864, 3210739712, 3208642560, 3206545408, 3204448256, 3200253952, 3196059648, 3187671040,
  0, 1040187392, 1048576000, 1052770304, 1056964608, 1059061760, 1061158912, 1063256064, 1065353216, 1066401792, 1067450368, 1068498944, 1069547520, 1070596096, 1071644672, 1072693248,
  1073741824, 1074266112, 1074790400, 1075314688, 1075838976, 1076363264, 1076887552, 1077411840, 1077936128, 1078460416, 1078984704, 1079508992, 1080033280, 1080557568, 1081081856, 1081606144,
  1082130432, 1082392576, 1082654720, 1082916864, 1083179008, 1083441152, 1083703296, 1083965440, 1084227584, 1084489728, 1084751872, 1085014016, 1085276160, 1085538304, 1085800448, 1086062592,
  1086324736, 1086586880, 1086849024, 1087111168, 1087373312, 1087635456, 1087897600, 1088159744, 1088421888, 1088684032, 1088946176, 1089208320, 1089470464, 1089732608, 1089994752, 1090256896,
  1090519040]
/-- their powers -/
def ET : List Nat := [
  967827720, 969362444, 971101513, 973072137, 974191837, 975457003, 976890623, 978515128, 980355933, 981954487, 983136307, 984475485, 985992972, 987712511, 989661003, 990862339,
  992113296, 993530815, 995137075, 996957207, 998632019, 999800566, 1001124704, 1002625149, 1004325375, 1006251984, 1007534039, 1008770946, 1010172546, 1011760767, 1013560457, 1015310670,
  1016466094, 1017775360, 1019258954, 1020940085, 1022845057, 1024206924, 1025429940, 1026815799, 1028386182, 1030165660, 1031990428, 1033132876, 1034427438, 1035894369, 1037556620, 1039440198,
  1040880981, 1042090262, 1043460556, 1045013303, 1046772796, 1048671281, 1049800898, 1051080921, 1052531378, 1054174960, 1056037383, 1057556197, 1058751896, 1060106801, 1061642109, 1063381841,
  1065353216, 1066470146, 1067735794, 1069169961, 1070795084, 1072636591, 1074232558, 1075414828, 1076754516, 1078272582, 1079992775, 1081942010, 1083140607, 1084392041, 1085810101, 1087416973,
  1089237798, 1090910051, 1092079044, 1093403686, 1094904703, 1096605577, 1098532920, 1099812267, 1101049646, 1102451780, 1104040606, 1105840981, 1107588665, 1108744529, 1110054295, 1111538453,
  1113220225, 1115125923, 1116485113, 1117708595, 1119094981, 1120665963, 1122446119, 1124268386, 1125411269, 1126706325, 1128173815, 1129836699, 1131720994, 1133159130, 1134368872, 1135739688,
  1137293027, 1139053190, 1140949202, 1142079249, 1143359761, 1144810770, 1146454979, 1148318112, 1149834307, 1151030462, 1152385883, 1153921776, 1155662171, 1157631101, 1158748457, 1160014587,
  1161449300]
/-- the logarithms of the powers of -4 to 4 -/
def LGT : List Nat := [
  3229614080, 3229089792, 3228565504, 3228041216, 3227516928, 3226992640, 3226468352, 3225944064, 3225419776, 3224895488, 3224371200, 3223846912, 3223322624, 3222798336, 3222274048, 3221749760,
  3221225472, 3220176896, 3219128320, 3218079744, 3217031168, 3215982592, 3214934016, 3213885440, 3212836864, 3210739712, 3208642560, 3206545407, 3204448256, 3200253951, 3196059648, 3187671041,
  0, 1040187389, 1048576000, 1052770305, 1056964607, 1059061760, 1061158913, 1063256064, 1065353215, 1066401792, 1067450368, 1068498944, 1069547520, 1070596096, 1071644672, 1072693248,
  1073741824, 1074266112, 1074790400, 1075314688, 1075838976, 1076363264, 1076887552, 1077411840, 1077936128, 1078460416, 1078984704, 1079508992, 1080033280, 1080557568, 1081081856, 1081606144,
  1082130432]
def xk (k : Nat) : Nat := XT.getD k 0
def ek (k : Nat) : Nat := ET.getD k 0
def lk (k : Nat) : Nat := LGT.getD k 0
def gapC (p q : Nat) : Option Nat := if FloatKind.f64.format.order p q == some .lt then floatBits .sub .f64 q p else floatBits .sub .f64 p q
def lt64 (p q : Nat) : Bool := FloatKind.f64.format.order p q == some .lt
open Go.Proofs.Ytmgmelbpggedkad in
def okX (k : Nat) : Bool := (floatBits .quo .f32 (floatOfInt .f32 ((k : Int) - 64)) 1090519040 == some (xk k)) && (nan .f32 (xk k) == false) && ((FloatKind.f32.format.order (xk k) 1128792064 == some .gt) == false) && ((FloatKind.f32.format.order (xk k) 3276275712 == some .lt) == false) && (expRun (xk k) == some (ek k)) && (nan .f32 (ek k) == false) && (FloatKind.f32.format.order (ek k) 0 == some .gt) && decide (ek k < 4294967296)
def okS (v u : Nat) : Bool := floatBits .add .f32 (xk (v + 32)) (xk (u + 32)) == some (xk (v + u))
open Go.Proofs.Ytmgmelbpggedkad in
def okL (v : Nat) : Bool := (logOut (ek (v + 32)) == some (lk v)) && (nan .f32 (lk v) == false) && (match gapC (W (lk v)) (W (xk (v + 32))) with | some g => lt64 g 4562254508917369340 | none => false)
def okP (v u : Nat) : Bool := match floatBits .mul .f64 (W (ek (v + 32))) (W (ek (u + 32))) with
  | some m => match gapC m (W (ek (v + u))), floatBits .mul .f64 4562254508917369340 (W (ek (v + u))) with
    | some g, some h => lt64 g h
    | _, _ => false
  | none => false
theorem allX : ((List.range 129).all okX) = true := by kernel_rfl
theorem allS : ((List.range 65).all fun v => (List.range 65).all fun u => okS v u) = true := by kernel_rfl
theorem allL : ((List.range 65).all okL) = true := by kernel_rfl
theorem allP : ((List.range 65).all fun v => (List.range 65).all fun u => okP v u) = true := by kernel_rfl
theorem getX {k : Nat} (h : k < 129) : floatBits .quo .f32 (floatOfInt .f32 ((k : Int) - 64)) 1090519040 = some (xk k) ∧ nan .f32 (xk k) = false ∧ (FloatKind.f32.format.order (xk k) 1128792064 == some .gt) = false ∧ (FloatKind.f32.format.order (xk k) 3276275712 == some .lt) = false ∧ expRun (xk k) = some (ek k) ∧ nan .f32 (ek k) = false ∧ (FloatKind.f32.format.order (ek k) 0 == some .gt) = true ∧ ek k < 4294967296 := by
  have := List.all_eq_true.1 allX k (List.mem_range.2 h)
  unfold okX at this
  simp only [Bool.and_eq_true, beq_iff_eq, decide_eq_true_eq] at this
  obtain ⟨⟨⟨⟨⟨⟨⟨a, b⟩, c⟩, d⟩, e⟩, f⟩, g⟩, i⟩ := this
  exact ⟨a, b, c, d, e, f, by rw [g]; rfl, i⟩
theorem getS {v u : Nat} (hv : v < 65) (hu : u < 65) : floatBits .add .f32 (xk (v + 32)) (xk (u + 32)) = some (xk (v + u)) := by
  have := List.all_eq_true.1 (List.all_eq_true.1 allS v (List.mem_range.2 hv)) u (List.mem_range.2 hu)
  unfold okS at this
  simpa using this
open Go.Proofs.Ytmgmelbpggedkad in
theorem getL {v : Nat} (hv : v < 65) : logOut (ek (v + 32)) = some (lk v) ∧ nan .f32 (lk v) = false ∧ ∃ g, gapC (W (lk v)) (W (xk (v + 32))) = some g ∧ (FloatKind.f64.format.order g 4562254508917369340 == some .lt) = true := by
  have := List.all_eq_true.1 allL v (List.mem_range.2 hv)
  unfold okL at this
  simp only [Bool.and_eq_true, beq_iff_eq] at this
  obtain ⟨⟨a, b⟩, c⟩ := this
  refine ⟨a, b, ?_⟩
  cases hg : gapC (W (lk v)) (W (xk (v + 32))) with
  | none => rw [hg] at c; cases c
  | some g => rw [hg] at c; exact ⟨g, rfl, c⟩
theorem getP {v u : Nat} (hv : v < 65) (hu : u < 65) : ∃ m g h, floatBits .mul .f64 (W (ek (v + 32))) (W (ek (u + 32))) = some m ∧ gapC m (W (ek (v + u))) = some g ∧ floatBits .mul .f64 4562254508917369340 (W (ek (v + u))) = some h ∧ (FloatKind.f64.format.order g h == some .lt) = true := by
  have := List.all_eq_true.1 (List.all_eq_true.1 allP v (List.mem_range.2 hv)) u (List.mem_range.2 hu)
  unfold okP at this
  cases hm : floatBits .mul .f64 (W (ek (v + 32))) (W (ek (u + 32))) with
  | none => rw [hm] at this; cases this
  | some m =>
    rw [hm] at this
    simp only at this
    cases hg : gapC m (W (ek (v + u))) with
    | none => rw [hg] at this; cases this
    | some g =>
      cases hh : floatBits .mul .f64 4562254508917369340 (W (ek (v + u))) with
      | none => rw [hg, hh] at this; cases this
      | some h =>
        rw [hg, hh] at this
        exact ⟨m, g, h, rfl, hg, rfl, this⟩
end Flt
