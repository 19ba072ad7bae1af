/-
  The walk of the law FnNumbers. Conditions: arguments fit their kind; the library's variable holds a number of its kind.
-/
import Derived.Test.YtfmicahibmpjmaaDoorTxtW
import Derived.Test.YtfmicahibmpjmaaDoorNReadW
import Derived.Test.YtfmicahibmpjmaaDoorSumW
import Derived.Test.YtfmicahibmpjmaaDoorAngW
import Derived.Test.YtfmicahibmpjmaaDoorSinW
import Derived.Test.YtfmicahibmpjmaaDoorDrawW
import Derived.Test.YtfmicahibmpjmaaDoorNar
namespace Dec
open Go Flt
theorem cutL_join (c : UInt8) : ∀ (l : List (List UInt8)), l ≠ [] → (∀ x ∈ l, c ∉ x) → cutL c (Lib.join l [c]) = l
  | [], h, _ => absurd rfl h
  | [x], _, h => by rw [Lib.join_one]; exact cutL_free (h x (List.mem_singleton.2 rfl))
  | x :: y :: r, _, h => by
    have e : Lib.join (x :: y :: r) [c] = x ++ c :: Lib.join (y :: r) [c] := by
      rw [Lib.join_cons, Lib.join_cons]
      simp [Lib.joinTail]
    rw [e, cutL_app (h x (List.mem_cons_self ..)), cutL_join c (y :: r) (by simp) (fun z hz => h z (List.mem_cons_of_mem _ hz))]
theorem hexB_ne : ∀ d, d < 16 → hexB d ≠ 44 := by decide
theorem hx_hexB : ∀ d, d < 16 → hx (hexB d) = some d := by decide
theorem hexs_free (n : Nat) : (44 : UInt8) ∉ hexs n := by
  unfold hexs
  intro h
  obtain ⟨j, _, e⟩ := List.mem_map.1 h
  exact hexB_ne _ (Nat.mod_lt _ (by decide)) e
theorem hexF_hexs (n : Nat) (h : n < 4294967296) : hexF (hexs n) = some n := by
  have e : hexs n = [hexB (n / 268435456 % 16), hexB (n / 16777216 % 16), hexB (n / 1048576 % 16), hexB (n / 65536 % 16), hexB (n / 4096 % 16), hexB (n / 256 % 16), hexB (n / 16 % 16), hexB (n / 1 % 16)] := rfl
  have hm : ∀ x, hx (hexB (x % 16)) = some (x % 16) := fun x => hx_hexB _ (Nat.mod_lt _ (by decide))
  rw [e]
  unfold hexF
  simp only [List.foldl, hst, hm, Option.bind, Option.map]
  congr 1
  omega
theorem bitsC_N (z : Nat) : bitsC (bitsN z) = (bitsN z : Int) := by
  unfold bitsN
  cases h : nan .f32 z
  · simp [bitsC_num h]
  · rw [if_pos rfl]; exact bitsC_nan (by decide)
theorem rnum_word (z : Nat) (h : z < 4294967296) : rnum (wordL z) = some (bitsN z) := by
  unfold wordL
  rw [rnum_at (by rw [hexs_length]) (hexF_hexs _ (bitsN_lt h)), if_pos (bitsC_N z)]
theorem sameB_word (z : Nat) : sameB (bitsN z) z = true := by
  unfold sameB
  rw [bitsC_N, bitsC_eq]
  simp
theorem cut_txt (zs : List Nat) (h : zs ≠ []) : cutB 44 (txtB zs) = zs.map wordB := by
  have e : (txtB zs).data.toList = Lib.join (zs.map wordL) [44] := by
    unfold txtB txtL
    rw [if_neg h]
  unfold cutB
  rw [e, cutL_join 44 _ (by simpa using h) (by
    intro x hx
    obtain ⟨z, _, rfl⟩ := List.mem_map.1 hx
    exact hexs_free _), List.map_map]
  rfl
theorem txt_ne (zs : List Nat) (h : zs ≠ []) : txtB zs ≠ noneB := by
  intro e
  have h1 := cut_txt zs h
  rw [e] at h1
  have h2 : cutB 44 noneB = [noneB] := by
    unfold cutB
    rw [cutL_free (by decide)]
    rfl
  rw [h2] at h1
  cases zs with
  | nil => exact h rfl
  | cons z r =>
    simp at h1
    have := congrArg ByteArray.size h1.1
    rw [wordB_size] at this
    have h4 : noneB.size = 4 := by decide
    omega
theorem read_txt (zs : List Nat) (hl : zs.length ≤ 256) (hz : ∀ z ∈ zs, z < 4294967296) : nrOK (txtB zs) = true ∧ nrZ (txtB zs) = zs.map bitsN := by
  by_cases h : zs = []
  · subst h
    exact ⟨nrOK_none, nrZ_none⟩
  · have hok : nrOK (txtB zs) = true := by
      rw [nrOK_ne (txt_ne zs h), cut_txt zs h, List.length_map, decide_eq_true hl, Bool.true_and]
      unfold allN
      rw [List.all_eq_true]
      intro b hb
      obtain ⟨z, hzz, rfl⟩ := List.mem_map.1 hb
      show (rnum (wordL z)).isSome = true
      rw [rnum_word z (hz z hzz)]; rfl
    refine ⟨hok, ?_⟩
    rw [nrZ_yes (txt_ne zs h) hok, cut_txt zs h, List.map_map]
    apply List.map_congr_left
    intro z hzz
    show (rnum (wordL z)).getD 0 = _
    rw [rnum_word z (hz z hzz)]; rfl
end Dec
namespace Go.Proofs.YtfmicahibmpjmaaDoor
open Go.RowKit Dec Flt
theorem flush_sub (x : Nat) (hx : x < 4294967296) : subB (flush x) = false ∧ (subB x == sameB x (flush x)) = false := by
  unfold flush
  cases hs : subB x
  · simp [hs, sameB]
  · have h := hs
    unfold subB at h
    have := of_decide_eq_true h
    refine ⟨?_, ?_⟩
    · rw [if_pos rfl]
      unfold subB
      exact decide_eq_false (by omega)
    · rw [if_pos rfl]
      have n1 : nan .f32 x = false := by rw [nan32 x hx]; exact decide_eq_false (by split <;> omega)
      have n2 : nan .f32 (x / 2147483648 * 2147483648) = false := by rw [nan32 _ (by omega)]; exact decide_eq_false (by split <;> omega)
      unfold sameB
      rw [bitsC_num n1, bitsC_num n2]
      have hne : ((x : Int) == ((x / 2147483648 * 2147483648 : Nat) : Int)) = false := by simp; omega
      rw [hne]; rfl
theorem same_is {o : Option Nat} {u v : Nat} (h : Is o u) (g : Is o v) : sameB u v = true := by
  cases o with
  | none => exact same_nn h g
  | some t =>
    obtain ⟨rfl, _, _⟩ := h
    obtain ⟨rfl, _, _⟩ := g
    unfold sameB; simp
theorem is_or {o : Option Nat} {u : Nat} (h : Is o u) : nan .f32 u = true ∨ u < 4294967296 := by
  cases o with
  | none => exact .inl h
  | some t => exact .inr h.2.2
theorem l01Bits_w (a : Nat) (w : World) (ha : nan .f32 a = true ∨ a < 4294967296) :
    Calls Tryd.prog 81 #[.float .f32 a] w fun e w' => e = .returned (.int .i64 (bitsC a)) ∧ w = w' := by
  rcases ha with hn | ha
  · have h := order_self .f32 a
    rw [hn] at h
    rw [bitsC_nan hn]
    clear hn
    go_enter Tryd.func81, Tryd.ntmps81
    go_wp2
    go_ret
    exact ⟨rfl, rfl⟩
  · exact l01Bits_any a w ha
theorem specSame_w (a b : Nat) (w : World) (ha : nan .f32 a = true ∨ a < 4294967296) (hb : nan .f32 b = true ∨ b < 4294967296) :
    Calls Tryd.prog 15 #[.float .f32 a, .float .f32 b] w fun e w' => e = .returned (.bool (sameB a b)) ∧ w = w' := by
  have hs : ∀ w, Calls Tryd.prog 51 #[.float .f32 a, .float .f32 b] w fun e w' => e = .returned (.bool (sameB a b)) ∧ w = w' := by
    intro w
    go_enter Tryd.func51, Tryd.ntmps51
    go_wp2_with fail
    refine (l01Bits_w a _ ha).mono ?_
    rintro e w' ⟨rfl, rfl⟩
    go_wp2_with fail
    refine (l01Bits_w b _ hb).mono ?_
    rintro e w' ⟨rfl, rfl⟩
    go_wp2_with fail
    go_ret
    exact ⟨rfl, rfl⟩
  have HS := Lib.hid hs
  clear hs ha hb
  go_enter Tryd.func15, Tryd.ntmps15
  go_wp2_with fail
  refine (HS.out _).mono ?_
  rintro e w' ⟨rfl, rfl⟩
  go_wp2_with fail
  go_ret
  exact ⟨rfl, rfl⟩
theorem angleOf_any (x y : Nat) (hx : x < 4294967296) (hy : y < 4294967296) (w : World) :
    Calls Tryd.prog 18 #[.complex .f32 x y] w fun e w' => ∃ v, e = .returned (.float .f32 v) ∧ Is (angOut y x) v ∧ Drawn w w' := by
  have HA := Lib.hid (fun w => implAngN_any y x hy hx w)
  clear hx hy
  go_enter Tryd.func18, Tryd.ntmps18
  go_wp2_with fail
  refine (HA.out _).mono ?_
  rintro e w1 ⟨v, rfl, hI, hD⟩
  have HI := Lib.hid hI
  have HD := Lib.hid hD
  clear hI hD
  go_wp2_with fail
  go_ret
  exact ⟨v, rfl, HI.out, HD.out⟩
theorem narrow_same (x y : Nat) (hx : x < 4294967296) (h : (nan .f32 x = true ∧ nan .f64 y = true) ∨ (nan .f32 x = false ∧ y = W x)) (w : World) :
    Calls Tryd.prog 19 #[.float .f64 y] w fun e w' => ∃ v, e = .returned (.float .f32 v) ∧ sameB v x = true ∧ (nan .f32 v = true ∨ v < 4294967296) ∧ Drawn w w' := by
  rcases h with ⟨h1, h2⟩ | ⟨h1, rfl⟩
  · have hN := narrow_nan y h2
    have HS : Hid (∀ w, sameB (convNan .f32 y w) x = true) := fun w => same_nn (convNan_nan .f32 y w) h1
    have HN2 : Hid (∀ w, nan .f32 (convNan .f32 y w) = true) := fun w => convNan_nan .f32 y w
    clear h1 h2
    go_enter Tryd.func19, Tryd.ntmps19
    go_wp2_with fail
    go_ret
    exact ⟨_, rfl, HS.out _, .inl (HN2.out _), Drawn.one _⟩
  · have hN : ∀ w, (convert 44 24 (.float .f64 (W x))).run Tryd.prog w = .ok (.float .f32 x) w := fun w => run_convert_float_float w 44 24 .f64 .f32 _ _ (by rw [Tryd.underlying44]; rfl) Tryd.underlying24 (narrow_W x hx h1)
    generalize W x = y at *
    clear h1
    go_enter Tryd.func19, Tryd.ntmps19
    go_wp2_with fail
    go_ret
    exact ⟨x, rfl, by unfold sameB; simp, .inr hx, Drawn.refl _⟩
theorem wid_cases (x : Nat) (w : World) : (nan .f32 x = true ∧ nan .f64 (wid x w) = true) ∨ (nan .f32 x = false ∧ wid x w = W x) := by
  unfold wid
  cases h : nan .f32 x
  · exact .inr ⟨rfl, by simp⟩
  · exact .inl ⟨rfl, by simpa using convNan_nan .f64 x w⟩
theorem sin_quarter : sinOut 1048576000 = some 1065353216 := by kernel_rfl
def numV (s1 s2 : Value) (k : Nat) (p1 p2 : Addr) (y z : Nat) : Nat → Value → Prop
  | 0, v => v = s1
  | 1, v => v = .int .i64 k
  | 2, v => v = .pointer (some p1)
  | 3, v => v = .float .f32 y
  | 4, v => v = s2
  | 5, v => v = .int .i64 k
  | 6, v => v = .pointer (some p2)
  | 7, v => v = .float .f32 z
  | 8, v => v = .bool true
  | 9, v => v = .bool false
  | _, _ => True
def fnNumbers_wants (w : World) : Prop := MaxAt w
set_option maxRecDepth 20000 in
set_option maxHeartbeats 3200000 in
theorem fnNumbers_walk (a0 : Option Addr) (l0 c0 : Nat) (z0 : List Nat) (a1 : Option Addr) (l1 c1 : Nat) (z1 : List Nat) (w : World) (h0 : BRow w a0 l0 z0) (h1 : BRow w a1 l1 z1) (ht : fnNumbers_wants w) :
    Calls Tryd.prog 3 #[.slice a0 l0 c0, .slice a1 l1 c1] w fun e w' => e = .returned (.bool true) ∧ Below w.heap.size w w' := by
  have HT := Lib.hid ht
  have H0 := Lib.hid h0
  have H1 := Lib.hid h1
  have hm0 : l0 ≤ 9223372036854775807 := by have := h0.2.1; unfold maxLen at this; exact this
  have hm1 : l1 ≤ 9223372036854775807 := by have := h1.2.1; unfold maxLen at this; exact this
  have HLB := Lib.hid (fun w => b10Long_any a0 a1 l0 l1 c0 c1 hm0 hm1 w)
  clear h0 h1 ht
  cases hlong : (decide (1048576 < l0) || decide (1048576 < l1))
  · rw [hlong] at HLB
    go_enter Tryd.func3, Tryd.ntmps3
    go_wp2_with fail
    refine (HLB.out _).mono ?_
    rintro e wz ⟨rfl, rfl⟩
    go_wp2_with fail
    refine (b10Number_any a0 l0 c0 z0 _ H0.out).mono ?_
    rintro e w1 ⟨x, hx, rfl, b1⟩
    have B1 := Lib.hid b1
    clear b1
    go_wp2_with fail
    refine (b10Number_any a1 l1 c1 z1 _ (H1.out.keep B1.out)).mono ?_
    rintro e w2 ⟨y, hy, rfl, b2⟩
    have B2 := Lib.hid (B1.out.trans (b2.mono B1.out.size))
    clear b2 B1
    go_wp2_with fail
    refine (implBits_any x _ hx).mono ?_
    rintro e wz ⟨rfl, rfl⟩
    have HBX := Lib.hid (bitsC_eq x)
    rw [HBX.out]
    have hbl := bitsN_lt hx
    have HSB := Lib.hid (sameB_word x)
    generalize bitsN x = bx at *
    go_wp2_with fail
    refine (implFrom_yes bx hbl _).mono ?_
    rintro e wz ⟨rfl, rfl⟩
    go_wp2_with fail
    refine (implFlush_any x hx _).mono ?_
    rintro e wz ⟨rfl, rfl⟩
    have HFS := Lib.hid (flush_sub x hx)
    have hfl := flush_lt x hx
    generalize flush x = fx at *
    go_wp2_with fail
    refine (b10At_any 0 12 (by decide) (by decide) (by decide) a0 l0 c0 z0 _ (H0.out.keep B2.out)).mono ?_
    rintro e wz ⟨n, rfl, hn, rfl⟩
    go_wp2_with fail
    refine (b10Numbers_any n (by omega) a1 l1 c1 z1 _ (H1.out.keep B2.out)).mono ?_
    rintro e w3 ⟨a', c', Z, rfl, hF, b3⟩
    have F3 := Lib.hid hF
    have B3 := Lib.hid (B2.out.trans (b3.mono B2.out.size))
    clear hF b3 B2
    go_wp2_with fail
    have HB3 : Hid (∀ w', Drawn w3 w' → Below w.heap.size w w') := fun w' h => B3.out.trans (h.below _)
    go_loopg [11, 41] n (fun m sv i wr => ∃ (k v : Nat), sv = .float .f32 v ∧ i = .int .i64 k ∧ Hid (k + m = n) ∧ k ≤ n ∧ Hid (Is (sumO (Z.take k)) v) ∧ Hid (Drawn w3 wr))
    case atStart => exact ⟨0, 0, rfl, rfl, by show _ = _; omega, Nat.zero_le _, ⟨rfl, by decide, by decide⟩, Drawn.refl _⟩
    case round =>
      obtain ⟨k, v, rfl, rfl, hk, hkl, hI, hd⟩ := hrel
      by_cases hlt : k < n
      · obtain ⟨b, off, rfl, _, hc⟩ := F3.out.2.2.2 k hlt
        have hc' : wr.cell? ⟨b, off + k, none⟩ = some (.float .f32 (Z.getD k 0)) := by rw [hd.out.cell]; exact hc
        have hzl := frow_lt F3.out hlt
        have hs := Lib.hid (take_next Z k (by rw [F3.out.1]; exact hlt))
        have HJ : Hid (k + 1 + (gk - 1) = n) := by have := hk.out; show _ = _; omega
        have HG : Hid (gk - 1 < gk) := by have := hk.out; show _ < _; omega
        have hgz := is_num hzl
        generalize Z.getD k 0 = z at *
        rcases op_step .add (.inl rfl) hI.out hgz with ⟨s1, s2⟩ | ⟨r, s1, s2, s3, s4⟩
        · have hr : ∀ w, (binOp .add 24 (.float .f32 v) (.float .f32 z)).run Tryd.prog w = .ok (.float .f32 (drawNan .f32 v z w)) w.drew := fun w => run_arith_nan w .add rfl 24 .f32 v z s2
          have HI : Hid (Is (sumO (Z.take (k + 1))) (drawNan .f32 v z wr)) := by
            show Is _ _
            rw [hs.out, sumO_snoc, s1]
            exact drawNan_nan .f32 v z wr
          have HD2 := Lib.hid hd.out.drew
          clear hc s1 s2 hzl hgz hI hd hs
          go_wp2_with fail
          go_roundg (gk - 1)
          case measure => exact HG.out
          case rel => exact ⟨k + 1, _, rfl, by go_num, HJ, by omega, HI.out, HD2.out⟩
        · have hr : ∀ w, (binOp .add 24 (.float .f32 v) (.float .f32 z)).run Tryd.prog w = .ok (.float .f32 r) w := fun w => run_float_arith w .add 24 .f32 v z r s2
          have HI : Hid (Is (sumO (Z.take (k + 1))) r) := by
            show Is _ _
            rw [hs.out, sumO_snoc, s1]
            exact ⟨rfl, s3, s4⟩
          clear hc s1 s2 s3 s4 hzl hgz hI hs
          go_wp2_with fail
          go_roundg (gk - 1)
          case measure => exact HG.out
          case rel => exact ⟨k + 1, r, rfl, by go_num, HJ, by omega, HI.out, hd.out⟩
      · obtain rfl : k = n := by have := hk.out; omega
        have HI : Hid (Is (sumO Z) v) := by
          have := hI.out
          rw [← F3.out.1, List.take_length] at this
          exact this
        have FR := Lib.hid (frow_keep F3.out (hd.out.below _))
        have BR := Lib.hid (HB3.out wr hd.out)
        clear hI hd hlt HB3 B3
        go_wp2_with fail
        refine (implSum_yes a' k c' Z wr FR.out (by omega)).mono ?_
        rintro e w4 ⟨sv, rfl, hS4, d4⟩
        have HSS := Lib.hid (same_is hS4 HI.out)
        have HS1 := Lib.hid (is_or hS4)
        have HS2 := Lib.hid (is_or HI.out)
        have F4 := Lib.hid (frow_keep FR.out (d4.below _))
        have B4 := Lib.hid (BR.out.trans (d4.below _))
        clear hS4 d4 FR BR HI
        go_wp2_with fail
        refine (text_any a' k c' Z w4 F4.out (by omega)).mono ?_
        rintro e w5 ⟨rfl, b5⟩
        have F5 := Lib.hid (frow_keep F4.out b5)
        have B5 := Lib.hid (B4.out.trans (b5.mono B4.out.size))
        have M5 : Hid (MaxAt w5) := MaxAt.keep HT.out B5.out
        clear b5 F4 B4
        have HRT := Lib.hid (read_txt Z (by rw [F5.out.1]; omega) F5.out.2.2.1)
        have HTS : Hid ((txtB Z).size ≤ 1048576) := by
          have := txtB_size Z (by rw [F5.out.1]; omega)
          show _ ≤ _; omega
        have HRC := Lib.hid (implReadNumbers_any (txtB Z) HTS.out w5 M5.out)
        rw [HRT.out.1, HRT.out.2, List.length_map, F5.out.1] at HRC
        generalize txtB Z = T at *
        clear HRT HTS
        go_wp2_with fail
        refine HRC.out.mono ?_
        rintro e w6 ⟨ar, cr, rfl, hFr, _, b6⟩
        have FR6 := Lib.hid hFr
        have F6 := Lib.hid (frow_keep F5.out b6)
        have B6 := Lib.hid (B5.out.trans (b6.mono B5.out.size))
        clear hFr b6 F5 B5 HRC
        go_wp2_with fail
        refine (specSame_w bx x _ (.inr hbl) (.inr hx)).mono ?_
        rintro e wz ⟨rfl, rfl⟩
        rw [HSB.out]
        go_wp2_with fail
        refine (implSub_any fx hfl _).mono ?_
        rintro e wz ⟨rfl, rfl⟩
        rw [HFS.out.1]
        go_wp2_with fail
        refine (implSub_any x hx _).mono ?_
        rintro e wz ⟨rfl, rfl⟩
        go_wp2_with fail
        refine (specSame_w x fx _ (.inr hx) (.inr hfl)).mono ?_
        rintro e wz ⟨rfl, rfl⟩
        have hq := HFS.out.2
        generalize subB x = p at *
        generalize sameB x fx = q at *
        go_wp2_with fail
        refine (specSame_w sv v _ HS1.out HS2.out).mono ?_
        rintro e wz ⟨rfl, rfl⟩
        rw [HSS.out]
        clear hq HFS
        go_wp2_with fail
        go_loopg [113] k (fun m i wr => ∃ j : Nat, i = .int .i64 j ∧ Hid (j + m = k) ∧ j ≤ k ∧ Hid (Drawn w6 wr))
        case atStart => exact ⟨0, rfl, by show _ = _; omega, Nat.zero_le _, Drawn.refl _⟩
        case round =>
          obtain ⟨j, rfl, hj, hjl, hd⟩ := hrel
          by_cases hlt : j < k
          · obtain ⟨g1, o1, rfl, _, e1⟩ := FR6.out.2.2.2 j hlt
            obtain ⟨g2, o2, rfl, _, e2⟩ := F6.out.2.2.2 j hlt
            have hzl := frow_lt F6.out hlt
            have hjZ : j < Z.length := by rw [F6.out.1]; exact hlt
            have hgr : (Z.map bitsN).getD j 0 = bitsN (Z.getD j 0) := by simp [List.getD, hjZ]
            rw [hgr] at e1
            have HSZ := Lib.hid (sameB_word (Z.getD j 0))
            have hrzl := bitsN_lt hzl
            have HJ : Hid (j + 1 + (gk - 1) = k) := by have := hj.out; show _ = _; omega
            have HG : Hid (gk - 1 < gk) := by have := hj.out; show _ < _; omega
            clear hgr hjZ
            generalize bitsN (Z.getD j 0) = rz at *
            generalize Z.getD j 0 = z at *
            go_wp2_with fail
            refine wp_region_vals (C := fun w' => Drawn w6 w') (V := numV (.slice (some ⟨g1, o1, none⟩) k cr) (.slice (some ⟨g2, o2, none⟩) k c') j ⟨g1, o1 + j, none⟩ ⟨g2, o2 + j, none⟩ rz z) (by kernel_rfl) hd.out.drew (by kernel_rfl) ?_ ?_
            · intro i o ho A W hC hdep hbase
              clear hj HJ HG hd
              have m1 : W.cell? ⟨g1, o1 + j, none⟩ = some (.float .f32 rz) := by rw [hC.cell]; exact e1
              have m2 : W.cell? ⟨g2, o2 + j, none⟩ = some (.float .f32 z) := by rw [hC.cell]; exact e2
              rcases i with _ | _ | _ | _ | _ | _ | _ | _ | _ | _ | i
              · obtain rfl := Option.some.inj ho
                have b0 : A.tmps.getD 17 undef = .slice (some ⟨g1, o1, none⟩) k cr := hbase 17 (by kernel_rfl)
                refine stepK (.slice (some ⟨g1, o1, none⟩) k cr) W rfl hC fun K hK => ?_
                simp only [Array.getD_eq_getD_getElem?] at b0
                unfold Oper.wp
                go_simp
                exact hK
              · obtain rfl := Option.some.inj ho
                have b0 : A.tmps.getD 19 undef = .int .i64 j := hbase 19 (by kernel_rfl)
                refine stepK (.int .i64 j) W rfl hC fun K hK => ?_
                simp only [Array.getD_eq_getD_getElem?] at b0
                unfold Oper.wp
                go_simp
                exact hK
              · obtain rfl := Option.some.inj ho
                have b1 : A.tmps.getD 116 undef = .slice (some ⟨g1, o1, none⟩) k cr := hdep ⟨0, .data⟩ (by simp) rfl 116 rfl
                have b2 : A.tmps.getD 117 undef = .int .i64 j := hdep ⟨1, .data⟩ (by simp) rfl 117 rfl
                refine stepK (.pointer (some ⟨g1, o1 + j, none⟩)) W rfl hC fun K hK => ?_
                simp only [Array.getD_eq_getD_getElem?] at b1 b2
                unfold Oper.wp
                go_simp
                exact hK
              · obtain rfl := Option.some.inj ho
                have b1 : A.tmps.getD 118 undef = .pointer (some ⟨g1, o1 + j, none⟩) := hdep ⟨2, .data⟩ (by simp) rfl 118 rfl
                refine stepK (.float .f32 rz) W rfl hC fun K hK => ?_
                simp only [Array.getD_eq_getD_getElem?] at b1
                unfold Oper.wp
                go_simp
                exact hK
              · obtain rfl := Option.some.inj ho
                have b0 : A.tmps.getD 10 undef = Value.slice (some ⟨g2, o2, none⟩) k c' := hbase 10 (by kernel_rfl)
                refine stepK (Value.slice (some ⟨g2, o2, none⟩) k c') W rfl hC fun K hK => ?_
                simp only [Array.getD_eq_getD_getElem?] at b0
                unfold Oper.wp
                go_simp
                exact hK
              · obtain rfl := Option.some.inj ho
                have b0 : A.tmps.getD 19 undef = .int .i64 j := hbase 19 (by kernel_rfl)
                refine stepK (.int .i64 j) W rfl hC fun K hK => ?_
                simp only [Array.getD_eq_getD_getElem?] at b0
                unfold Oper.wp
                go_simp
                exact hK
              · obtain rfl := Option.some.inj ho
                have b1 : A.tmps.getD 120 undef = Value.slice (some ⟨g2, o2, none⟩) k c' := hdep ⟨4, .data⟩ (by simp) rfl 120 rfl
                have b2 : A.tmps.getD 121 undef = .int .i64 j := hdep ⟨5, .data⟩ (by simp) rfl 121 rfl
                refine stepK (.pointer (some ⟨g2, o2 + j, none⟩)) W rfl hC fun K hK => ?_
                simp only [Array.getD_eq_getD_getElem?] at b1 b2
                unfold Oper.wp
                go_simp
                exact hK
              · obtain rfl := Option.some.inj ho
                have b1 : A.tmps.getD 122 undef = .pointer (some ⟨g2, o2 + j, none⟩) := hdep ⟨6, .data⟩ (by simp) rfl 122 rfl
                refine stepK (.float .f32 z) W rfl hC fun K hK => ?_
                simp only [Array.getD_eq_getD_getElem?] at b1
                unfold Oper.wp
                go_simp
                exact hK
              · obtain rfl := Option.some.inj ho
                have b1 : A.tmps.getD 119 undef = .float .f32 rz := hdep ⟨3, .data⟩ (by simp) rfl 119 rfl
                have b2 : A.tmps.getD 123 undef = .float .f32 z := hdep ⟨7, .data⟩ (by simp) rfl 123 rfl
                refine stepK (.bool true) W rfl hC fun K hK => ?_
                simp only [Array.getD_eq_getD_getElem?] at b1 b2
                unfold Oper.wp
                go_simp
                refine (specSame_w rz z _ (.inr hrzl) (.inr hzl)).mono ?_
                rintro e w' ⟨rfl, rfl⟩
                rw [HSZ.out]
                exact hK
              · obtain rfl := Option.some.inj ho
                have b1 : A.tmps.getD 124 undef = .bool true := hdep ⟨8, .data⟩ (by simp) rfl 124 rfl
                refine stepK (.bool false) W rfl hC fun K hK => ?_
                simp only [Array.getD_eq_getD_getElem?] at b1
                unfold Oper.wp
                go_simp
                exact hK
              · have := (Array.getElem?_eq_some_iff.1 ho).1
                simp at this
                omega
            · intro vals W hC hlen hV
              clear e1 e2
              match vals, hlen with
              | [v0, v1, v2, v3, v4, v5, v6, v7, v8, v9], _ =>
                obtain rfl : v0 = _ := hV 0 (by simp)
                obtain rfl : v1 = _ := hV 1 (by simp)
                obtain rfl : v2 = _ := hV 2 (by simp)
                obtain rfl : v3 = _ := hV 3 (by simp)
                obtain rfl : v4 = _ := hV 4 (by simp)
                obtain rfl : v5 = _ := hV 5 (by simp)
                obtain rfl : v6 = _ := hV 6 (by simp)
                obtain rfl : v7 = _ := hV 7 (by simp)
                obtain rfl : v8 = _ := hV 8 (by simp)
                obtain rfl : v9 = _ := hV 9 (by simp)
                clear hV
                have HC := Lib.hid hC
                clear hC
                simp only [puts, Act.put, List.zip_cons_cons, List.zip_nil_left, List.foldl_cons, List.foldl_nil, List.setIfInBounds_toArray, List.set_cons_zero, List.set_cons_succ]
                go_wp2_with fail
                go_roundg (gk - 1)
                case measure => exact HG.out
                case rel => exact ⟨j + 1, by go_num, HJ, by omega, HC.out⟩
          · obtain rfl : j = k := by have := hj.out; omega
            have B7 := Lib.hid (B6.out.trans (hd.out.below _))
            clear hd hlt hj FR6 F6 B6
            go_wp2_with fail
            refine (implAngN_any y x hy hx wr).mono ?_
            rintro e w7 ⟨u, rfl, hI7, d7⟩
            have I7 := Lib.hid hI7
            have B8 := Lib.hid (B7.out.trans (d7.below _))
            clear hI7 d7 B7
            go_wp2_with fail
            refine (angleOf_any x y hx hy w7).mono ?_
            rintro e w8 ⟨t, rfl, hI8, d8⟩
            have HST := Lib.hid (same_is I7.out hI8)
            have O7 := Lib.hid (is_or I7.out)
            have O8 := Lib.hid (is_or hI8)
            have B9 := Lib.hid (B8.out.trans (d8.below _))
            clear hI8 d8 B8 I7
            go_wp2_with fail
            refine (specSame_w u t _ O7.out O8.out).mono ?_
            rintro e wz ⟨rfl, rfl⟩
            rw [HST.out]
            have hwid := fun w => widen_all x w
            go_wp2_with fail
            refine (narrow_same x (wid x w8) hx (wid_cases x w8) _).mono ?_
            rintro e w9 ⟨r9, rfl, hs9, ho9, d9⟩
            have HS9 := Lib.hid hs9
            have O9 := Lib.hid ho9
            have B10 := Lib.hid ((B9.out.trans ((wd_drawn x w8).below _)).trans (d9.below _))
            clear hs9 ho9 d9 B9 hwid
            go_wp2_with fail
            refine (specSame_w r9 x _ O9.out (.inr hx)).mono ?_
            rintro e wz ⟨rfl, rfl⟩
            rw [HS9.out]
            go_wp2_with fail
            refine (implSinN_any 1048576000 _).mono ?_
            rintro e w10 ⟨s10, rfl, hI10, d10⟩
            rw [sin_quarter] at hI10
            obtain ⟨rfl, _, _⟩ := hI10
            have B11 := Lib.hid (B10.out.trans (d10.below _))
            have heq : (FloatKind.f32.format.order 1065353216 1065353216 == some .eq) = true := by kernel_rfl
            clear d10 B10
            go_wp2_with fail
            go_ret
            exact ⟨rfl, B11.out⟩
  · rw [hlong] at HLB
    go_enter Tryd.func3, Tryd.ntmps3
    go_wp2_with fail
    refine (HLB.out _).mono ?_
    rintro e wz ⟨rfl, rfl⟩
    go_wp2_with fail
    go_ret
    exact ⟨rfl, Below.refl _ _⟩
end Go.Proofs.YtfmicahibmpjmaaDoor
