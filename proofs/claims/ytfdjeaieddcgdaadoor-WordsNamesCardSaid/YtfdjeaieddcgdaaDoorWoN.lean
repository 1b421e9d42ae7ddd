/-
  WHAT IS PROVED: contract of the statements' own function that writes words as a text.
-/
import Derived.Test.YtfdjeaieddcgdaaDoorWoM
namespace Go.Proofs.YtfdjeaieddcgdaaDoor
open Go.RowKit Go.Shelf
set_option linter.unusedVariables false

theorem one_conv (W : World) (d : UInt8) : (convert 45 9 (.slice (some ⟨W.heap.size, 0, none⟩) 1 1)).run Tryd.prog (W.alloc (.cells #[.int .u8 (d.toNat : Int)] 5)) = .ok (.string (strU [d])) (W.alloc (.cells #[.int .u8 (d.toNat : Int)] 5)) := by
  have h := conv_row (row_new W [d.toNat] 1 W.heap.size (0, 0) rfl rfl (by intro x hx; simp at hx; subst hx; exact d.toNat_lt) (by omega))
  have e : strB [d.toNat] = strU [d] := by unfold strB strU; simp
  rw [e] at h
  exact h

theorem textL_snoc (g : Bool) (x : WordM) : ∀ l : List WordM, textL g (l ++ [x]) = textL g l ++ (if l = [] then [] else [32]) ++ textW g x
  | [] => by simp [textL]
  | [a] => by simp [textL]
  | a :: b :: l => by
    have := textL_snoc g x (b :: l)
    rw [if_neg (by simp)] at this ⊢
    simp only [List.cons_append, textL] at this ⊢
    rw [this]
    simp
theorem textL_le (g : Bool) (l : List WordM) (k : Nat) : (textL g (l.take k)).length ≤ (textL g l).length := by
  have key : ∀ (m l : List WordM), (textL g l).length ≤ (textL g (l ++ m)).length := by
    intro m
    induction m with
    | nil => intro l; rw [List.append_nil]; exact Nat.le_refl _
    | cons x m ih =>
      intro l
      have h1 := ih (l ++ [x])
      rw [List.append_assoc] at h1
      refine Nat.le_trans ?_ h1
      rw [textL_snoc]; simp
  have := key (l.drop k) (l.take k)
  rwa [List.take_append_drop] at this
theorem textL_next (g : Bool) (l : List WordM) (k : Nat) (x : WordM) (h : l[k]? = some x) : textL g (l.take (k + 1)) = textL g (l.take k) ++ (if k = 0 then [] else [32]) ++ textW g x := by
  rw [List.take_add_one, h]
  show textL g (l.take k ++ [x]) = _
  rw [textL_snoc]
  have hk := (List.getElem?_eq_some_iff.1 h).1
  by_cases h0 : k = 0
  · subst h0; simp
  · rw [if_neg h0, if_neg]
    intro e
    have := congrArg List.length e
    rw [List.length_take, List.length_nil] at this; omega
theorem dblB_next (t : List UInt8) (k : Nat) (c : UInt8) (h : t[k]? = some c) : dblB (t.take (k + 1)) = dblB (t.take k) ++ (if c = 39 then [39, 39] else [c]) := by
  rw [List.take_add_one, h]
  unfold dblB
  rw [List.flatMap_append]; simp
theorem dblB_len (t : List UInt8) : (dblB t).length ≤ 2 * t.length := by
  induction t with
  | nil => simp [dblB]
  | cons c t ih => rw [dblB_cons, List.length_append, List.length_cons]; split <;> simp <;> omega

/-- words whose text can be written -/
structure CanW (x : WordM) : Prop where
  kinds : x.kind = 1 ∨ x.kind = 2 ∨ x.kind = 3 ∨ x.kind = 4
  i : x.i < 9223372036854775808
  s : x.s.length ≤ 20000
theorem FineW.can {x : WordM} (h : FineW x) : CanW x := by
  refine ⟨h.kinds, ?_, ?_⟩
  · rcases h.kinds with k | k | k | k
    · have := h.name k; omega
    · exact (h.num k).2
    · have := h.text k; omega
    · have := h.sign k; omega
  · rcases h.kinds with k | k | k | k
    · have := h.name k; omega
    · rw [(h.num k).1]; simp
    · have := h.text k; omega
    · have hm := (h.sign k).1
      have : signsB.all (fun y => decide (y.length ≤ 20000)) = true := by decide
      exact of_decide_eq_true (List.all_eq_true.1 this _ hm)

theorem strU_lit (l : List UInt8) (s : ByteArray) (h : s.data.toList = l) : s = strU l := by rw [← h, strU_of]

set_option maxRecDepth 100000 in
set_option maxHeartbeats 16000000 in
theorem text_any6 (v : Value) (l : List WordM) (g : Bool) (w : World) (hv : RowW w v l) (hc : ∀ x ∈ l, CanW x) (hb : (textL g l).length ≤ 1000000000) :
    Calls Tryd.prog 13 #[v, .bool g] w fun e w' => e = .returned (.string (strU (textL g l))) ∧ Below w.heap.size w w' := by
  obtain ⟨ao, cap, rfl, hr1, hm1⟩ := hv.slice
  have HV := Lib.hid hv
  have HC := Lib.hid hc
  have HB := Lib.hid hb
  obtain ⟨n, hn⟩ : ∃ n, l.length = n := ⟨_, rfl⟩
  rw [hn] at hr1 HV ⊢
  have HN := Lib.hid hn
  clear hv hn hc hb
  go_enter Tryd.func13, Tryd.ntmps13
  go_wp2_with fail
  go_loopw [5, 6] (fun sv iv wr => ∃ i : Nat, i ≤ n ∧ iv = .int .i64 i ∧ sv = .string (strU (textL g (l.take i))) ∧ Hid (Below w.heap.size w wr)) (fun _ iv _ => n - (RowKit.intOf iv).toNat)
  case atStart => exact ⟨0, by omega, rfl, rfl, Lib.hid (Below.refl _ _)⟩
  case round =>
    obtain ⟨i, hi, rfl, rfl, HK⟩ := hrel
    rename World => wo
    by_cases hlt : i < n
    · obtain ⟨x, hx⟩ : ∃ x, l[i]? = some x := ⟨l[i]'(by rw [HN.out]; exact hlt), by simp [HN.out, hlt]⟩
      obtain ⟨g1, c1, e1, p0, p1, p2, p3⟩ := (HV.out.kept HK.out).lies hx
      rw [HN.out] at e1
      cases e1
      have HX := Lib.hid (textL_next g l i x hx)
      have hcx := HC.out x (List.mem_of_getElem? hx)
      obtain ⟨acc, hacc⟩ : ∃ acc, textL g (l.take i) = acc := ⟨_, rfl⟩
      have hle := textL_le g l i
      have hb := HB.out
      rw [hacc] at hle HX ⊢
      have HACC : Hid (acc.length ≤ 1000000000) := Lib.hid (by omega)
      have HF := Lib.hid (Four.new wo 29 (.int .u8 (x.kind : Int)) (.string (strU x.s)) (.int .i64 (x.i : Int)) (.int .i64 (x.pos : Int)))
      have HBN := Lib.hid (below_alloc wo (.cells #[.int .u8 (x.kind : Int), .string (strU x.s), .int .i64 (x.i : Int), .int .i64 (x.pos : Int)] 29))
      clear hx hacc hle hb
      obtain ⟨k, t, ii, p⟩ := x
      obtain ⟨hkk, hii, htt⟩ := hcx
      dsimp only at hkk hii htt p0 p1 p2 p3 HX HF HBN
      by_cases hi0 : i = 0
      · have h00 : ¬ 0 < i := by omega
        obtain ⟨b, hbe⟩ : ∃ b, acc = b := ⟨_, rfl⟩
        have HX' : Hid (textL g (l.take (i + 1)) = b ++ textW g ⟨k, t, ii, p⟩) := by show _ = _; rw [HX.out, if_pos hi0, List.append_nil, hbe]
        have HBL : Hid (b.length ≤ 1000000001) := by show _ ≤ _; rw [← hbe]; have := HACC.out; omega
        rw [hbe]
        clear hi0 hbe HX HACC
        have hz2 : ¬ 9223372036854775807 < (strU b).size + 1 := by rw [strU_size]; have := HBL.out; omega
        rcases hkk with rfl | rfl | rfl | rfl
        · obtain ⟨T, hT⟩ : ∃ T, strU t = T := ⟨_, rfl⟩
          rw [hT] at p1 HF HBN
          have HT := Lib.hid hT
          have HTS : Hid (T.size = t.length) := by show _ = _; rw [← hT, strU_size]
          have hTb : T.size ≤ 20000 := by rw [HTS.out]; exact htt
          clear hT
          have HWB : Hid (wo.heap.size < (wo.alloc (.cells #[.int .u8 ((1 : Nat) : Int), .string T, .int .i64 (ii : Int), .int .i64 (p : Int)] 29)).heap.size) := Lib.hid (by simp)
          go_wp2_with fail
          go_loopw [5, 9] (fun sv kv w2 => ∃ (j : Nat) (y : List UInt8), j ≤ T.size ∧ kv = .int .i64 j ∧ sv = .string (strU y) ∧ Hid (y = b ++ (t.take j).map (fun c => if g then greatB c else c)) ∧ Hid (Below wo.heap.size wo w2) ∧ Hid (Four w2 wo.heap.size 29 (.int .u8 ((1 : Nat) : Int)) (.string T) (.int .i64 (ii : Int)) (.int .i64 (p : Int)))) (fun _ kv _ => T.size - (intOf kv).toNat)
          case atStart => exact ⟨0, b, Nat.zero_le _, rfl, rfl, Lib.hid (by simp), HBN, HF⟩
          case round =>
            obtain ⟨j, y, hj, rfl, rfl, HY, HBL2, HF2⟩ := hrel
            obtain ⟨q0, q1, q2, q3⟩ := HF2.out.cells
            have hts := HTS.out
            have hyl : y.length ≤ 1000060000 := by
              rw [HY.out, List.length_append, List.length_map, List.length_take]
              have := HBL.out
              omega
            clear hts
            by_cases hjl : j < T.size
            · have hg : t[j]? = some T[j] := by rw [← str_get T j hjl, ← HT.out, strU_data]
              obtain ⟨m, hm⟩ : ∃ m, T[j].toNat = m := ⟨_, rfl⟩
              have hmlt := T[j].toNat_lt
              rw [hm] at hmlt
              have HN2 : Hid ((t.take (j + 1)).map (fun c => if g then greatB c else c) = (t.take j).map (fun c => if g then greatB c else c) ++ [if g then greatB T[j] else T[j]]) := by
                show _ = _
                rw [List.take_add_one, hg]; simp
              obtain ⟨d, hd⟩ : ∃ d, (if g then greatB T[j] else T[j]) = d := ⟨_, rfl⟩
              rw [hd] at HN2
              obtain ⟨y2, hy2⟩ : ∃ y2, y ++ [d] = y2 := ⟨_, rfl⟩
              have ey : strU y ++ strU [d] = strU y2 := by rw [← hy2]; exact strU_append _ _
              have hzx : ¬ 9223372036854775807 < (strU y).size + (strU [d]).size := by rw [strU_size, strU_size]; simp; omega
              have HY2 := Lib.hid hy2
              have hcv := one_conv wr d
              have HREL : Hid (y2 = b ++ (t.take (j + 1)).map (fun c => if g then greatB c else c)) := by show _ = _; rw [← HY2.out, HN2.out, HY.out]; simp
              have HB3 : ∀ o : Obj, Hid (Below wo.heap.size wo (wr.alloc o)) := fun o => Lib.hid (HBL2.out.trans ((below_alloc wr o).mono HBL2.out.size))
              have HF3 : ∀ o : Obj, Hid (Four (wr.alloc o) wo.heap.size 29 (.int .u8 ((1 : Nat) : Int)) (.string T) (.int .i64 (ii : Int)) (.int .i64 (p : Int))) := fun o => Lib.hid (HF2.out.kept (below_alloc wr o))
              clear hg hy2 hyl HN2
              cases g with
              | false =>
                have hdm : d.toNat = m := by rw [← hd]; exact hm
                rw [hdm] at hcv
                clear hd hdm
                go_wp2_with fail
                go_roundw
                case rel => exact ⟨j + 1, y2, by omega, by go_num, rfl, HREL, HB3 _, HF3 _⟩
                case measure => simp [intOf]; omega
              | true =>
                by_cases hsm : 97 ≤ m ∧ m ≤ 122
                · obtain ⟨hs1, hs2⟩ := hsm
                  have hdm : (d.toNat : Int) = (m : Int) - 32 := by
                    rw [← hd, if_pos rfl]
                    have hss : small T[j] = true := by unfold small; rw [hm]; simp; omega
                    unfold greatB
                    rw [if_pos hss, UInt8.toNat_sub_of_le _ _ (by rw [UInt8.le_iff_toNat_le, hm]; show 32 ≤ m; omega), hm]
                    show ((m - 32 : Nat) : Int) = _
                    omega
                  rw [hdm] at hcv
                  clear hd hdm
                  go_wp2_with fail
                  go_roundw
                  case rel => exact ⟨j + 1, y2, by omega, by go_num, rfl, HREL, HB3 _, HF3 _⟩
                  case measure => simp [intOf]; omega
                · have hdm : d.toNat = m := by
                    rw [← hd, if_pos rfl]
                    have hss : small T[j] = false := by unfold small; rw [hm]; simp; omega
                    unfold greatB
                    rw [if_neg (by rw [hss]; simp)]
                    exact hm
                  rw [hdm] at hcv
                  clear hd hdm
                  by_cases hlo : 97 ≤ m
                  · have hhi : ¬ m ≤ 122 := fun h => hsm ⟨hlo, h⟩
                    clear hsm
                    go_wp2_with fail
                    go_roundw
                    case rel => exact ⟨j + 1, y2, by omega, by go_num, rfl, HREL, HB3 _, HF3 _⟩
                    case measure => simp [intOf]; omega
                  · clear hsm
                    go_wp2_with fail
                    go_roundw
                    case rel => exact ⟨j + 1, y2, by omega, by go_num, rfl, HREL, HB3 _, HF3 _⟩
                    case measure => simp [intOf]; omega
            · go_wp2_with fail
              go_roundw
              case rel =>
                refine ⟨i + 1, by omega, by go_num, ?_, Lib.hid (HK.out.trans (HBL2.out.mono HK.out.size))⟩
                rw [HX'.out, HY.out, List.take_of_length_le (by have := HTS.out; omega)]
                cases g <;> simp [textW]
              case measure => simp [RowKit.intOf]; omega
        · have hzd : ¬ 9223372036854775807 < (strU b).size + (strU (digitsB ii)).size := by rw [strU_size, strU_size]; have := HBL.out; have := digitsB_len ii; omega
          have ed : strU b ++ strU (digitsB ii) = strU (b ++ digitsB ii) := strU_append _ _
          go_wp2_with (go_at_call 17; refine (digits_any ii hii _).mono ?_; rintro e w' ⟨rfl, rfl⟩)
          go_roundw
          case rel => exact ⟨i + 1, by omega, by go_num, by rw [HX'.out]; rfl, Lib.hid (HK.out.trans (HBN.out.mono HK.out.size))⟩
          case measure => simp [RowKit.intOf]; omega
        · obtain ⟨q0, q1, q2, q3⟩ := HF.out.cells
          obtain ⟨T, hT⟩ : ∃ T, strU t = T := ⟨_, rfl⟩
          rw [hT] at p1 q1 HF HBN
          have HT := Lib.hid hT
          have HTS : Hid (T.size = t.length) := by show _ = _; rw [← hT, strU_size]
          have hTb : T.size ≤ 20000 := by rw [HTS.out]; exact htt
          have e39 : strU b ++ ⟨#[39]⟩ = strU (b ++ [39]) := strU_append b [39]
          clear hT
          go_wp2_with fail
          go_loop [5, 8] (fun sv kv => ∃ (j : Nat) (y : List UInt8), j ≤ T.size ∧ kv = .int .i64 j ∧ sv = .string (strU y) ∧ Hid (y = b ++ [39] ++ dblB (t.take j))) (fun _ kv => T.size - (intOf kv).toNat)
          case atStart => exact ⟨0, b ++ [39], Nat.zero_le _, rfl, rfl, Lib.hid (by simp [dblB])⟩
          case round =>
            obtain ⟨j, y, hj, rfl, rfl, HY⟩ := hrel
            have hts := HTS.out
            have hyl : y.length ≤ 1000060000 := by
              rw [HY.out, List.length_append, List.length_append]
              have := dblB_len (t.take j)
              rw [List.length_take] at this
              have := HBL.out
              simp; omega
            have hzy : ¬ 9223372036854775807 < (strU y).size + 1 := by rw [strU_size]; omega
            clear hts
            by_cases hjl : j < T.size
            · have hg : t[j]? = some T[j] := by rw [← str_get T j hjl, ← HT.out, strU_data]
              have ex : T.extract j (j + 1) = strU [T[j]] := by
                have := strU_at t j T[j] hg
                rw [HT.out] at this; exact this
              obtain ⟨y2, hy2⟩ : ∃ y2, y ++ [T[j]] = y2 := ⟨_, rfl⟩
              have ey : strU y ++ strU [T[j]] = strU y2 := by rw [← hy2]; exact strU_append _ _
              have hzx : ¬ 9223372036854775807 < (strU y).size + (strU [T[j]]).size := by rw [strU_size, strU_size]; simp; omega
              have hzm : ¬ 9223372036854775807 < (strU y).size + (min (j + 1) T.size - j) := by rw [strU_size]; omega
              have hzy2 : ¬ 9223372036854775807 < (strU y2).size + 1 := by rw [← hy2, strU_size]; simp; omega
              have HN2 := Lib.hid (dblB_next t j T[j] hg)
              have HY2 := Lib.hid hy2
              clear hg hy2 hyl
              obtain ⟨m, hm⟩ : ∃ m, T[j].toNat = m := ⟨_, rfl⟩
              by_cases h39 : m = 39
              · have HC39 : Hid (T[j] = 39) := Lib.hid (u8_eq39 (hm.trans h39))
                subst h39
                obtain ⟨y3, hy3⟩ : ∃ y3, y2 ++ [39] = y3 := ⟨_, rfl⟩
                have ey3 : strU y2 ++ ⟨#[39]⟩ = strU y3 := by rw [← hy3]; exact strU_append _ _
                have HY3 := Lib.hid hy3
                clear hy3
                go_wp2_with fail
                go_round
                case rel =>
                  refine ⟨j + 1, y3, by omega, by go_num, rfl, Lib.hid ?_⟩
                  rw [← HY3.out, ← HY2.out, HN2.out, if_pos HC39.out, HC39.out, HY.out]; simp
                case measure => simp [intOf]; omega
              · have hmb : ((m : Int) == 39) = false := by rw [beq_eq_false_iff_ne]; omega
                have HC39 : Hid (¬ T[j] = 39) := Lib.hid (fun e => h39 (by rw [← hm, e]; rfl))
                clear h39
                go_wp2_with fail
                go_round
                case rel =>
                  refine ⟨j + 1, y2, by omega, by go_num, rfl, Lib.hid ?_⟩
                  rw [← HY2.out, HN2.out, if_neg HC39.out, HY.out]; simp
                case measure => simp [intOf]; omega
            · obtain ⟨y3, hy3⟩ : ∃ y3, y ++ [39] = y3 := ⟨_, rfl⟩
              have ey3 : strU y ++ ⟨#[39]⟩ = strU y3 := by rw [← hy3]; exact strU_append _ _
              have HY3 := Lib.hid hy3
              clear hy3
              go_wp2_with fail
              go_roundw
              case rel =>
                refine ⟨i + 1, by omega, by go_num, ?_, Lib.hid (HK.out.trans (HBN.out.mono HK.out.size))⟩
                rw [HX'.out, ← HY3.out, HY.out, List.take_of_length_le (by have := HTS.out; omega)]
                simp [textW]
              case measure => simp [RowKit.intOf]; omega
        · obtain ⟨T, hT⟩ : ∃ T, strU t = T := ⟨_, rfl⟩
          rw [hT] at p1 HF HBN
          have HT := Lib.hid hT
          have HTS : Hid (T.size = t.length) := by show _ = _; rw [← hT, strU_size]
          have hTb : T.size ≤ 20000 := by rw [HTS.out]; exact htt
          clear hT
          have HWB : Hid (wo.heap.size < (wo.alloc (.cells #[.int .u8 ((4 : Nat) : Int), .string T, .int .i64 (ii : Int), .int .i64 (p : Int)] 29)).heap.size) := Lib.hid (by simp)
          go_wp2_with fail
          go_loopw [5, 9] (fun sv kv w2 => ∃ (j : Nat) (y : List UInt8), j ≤ T.size ∧ kv = .int .i64 j ∧ sv = .string (strU y) ∧ Hid (y = b ++ (t.take j).map (fun c => if g then greatB c else c)) ∧ Hid (Below wo.heap.size wo w2) ∧ Hid (Four w2 wo.heap.size 29 (.int .u8 ((4 : Nat) : Int)) (.string T) (.int .i64 (ii : Int)) (.int .i64 (p : Int)))) (fun _ kv _ => T.size - (intOf kv).toNat)
          case atStart => exact ⟨0, b, Nat.zero_le _, rfl, rfl, Lib.hid (by simp), HBN, HF⟩
          case round =>
            obtain ⟨j, y, hj, rfl, rfl, HY, HBL2, HF2⟩ := hrel
            obtain ⟨q0, q1, q2, q3⟩ := HF2.out.cells
            have hts := HTS.out
            have hyl : y.length ≤ 1000060000 := by
              rw [HY.out, List.length_append, List.length_map, List.length_take]
              have := HBL.out
              omega
            clear hts
            by_cases hjl : j < T.size
            · have hg : t[j]? = some T[j] := by rw [← str_get T j hjl, ← HT.out, strU_data]
              obtain ⟨m, hm⟩ : ∃ m, T[j].toNat = m := ⟨_, rfl⟩
              have hmlt := T[j].toNat_lt
              rw [hm] at hmlt
              have HN2 : Hid ((t.take (j + 1)).map (fun c => if g then greatB c else c) = (t.take j).map (fun c => if g then greatB c else c) ++ [if g then greatB T[j] else T[j]]) := by
                show _ = _
                rw [List.take_add_one, hg]; simp
              obtain ⟨d, hd⟩ : ∃ d, (if g then greatB T[j] else T[j]) = d := ⟨_, rfl⟩
              rw [hd] at HN2
              obtain ⟨y2, hy2⟩ : ∃ y2, y ++ [d] = y2 := ⟨_, rfl⟩
              have ey : strU y ++ strU [d] = strU y2 := by rw [← hy2]; exact strU_append _ _
              have hzx : ¬ 9223372036854775807 < (strU y).size + (strU [d]).size := by rw [strU_size, strU_size]; simp; omega
              have HY2 := Lib.hid hy2
              have hcv := one_conv wr d
              have HREL : Hid (y2 = b ++ (t.take (j + 1)).map (fun c => if g then greatB c else c)) := by show _ = _; rw [← HY2.out, HN2.out, HY.out]; simp
              have HB3 : ∀ o : Obj, Hid (Below wo.heap.size wo (wr.alloc o)) := fun o => Lib.hid (HBL2.out.trans ((below_alloc wr o).mono HBL2.out.size))
              have HF3 : ∀ o : Obj, Hid (Four (wr.alloc o) wo.heap.size 29 (.int .u8 ((4 : Nat) : Int)) (.string T) (.int .i64 (ii : Int)) (.int .i64 (p : Int))) := fun o => Lib.hid (HF2.out.kept (below_alloc wr o))
              clear hg hy2 hyl HN2
              cases g with
              | false =>
                have hdm : d.toNat = m := by rw [← hd]; exact hm
                rw [hdm] at hcv
                clear hd hdm
                go_wp2_with fail
                go_roundw
                case rel => exact ⟨j + 1, y2, by omega, by go_num, rfl, HREL, HB3 _, HF3 _⟩
                case measure => simp [intOf]; omega
              | true =>
                by_cases hsm : 97 ≤ m ∧ m ≤ 122
                · obtain ⟨hs1, hs2⟩ := hsm
                  have hdm : (d.toNat : Int) = (m : Int) - 32 := by
                    rw [← hd, if_pos rfl]
                    have hss : small T[j] = true := by unfold small; rw [hm]; simp; omega
                    unfold greatB
                    rw [if_pos hss, UInt8.toNat_sub_of_le _ _ (by rw [UInt8.le_iff_toNat_le, hm]; show 32 ≤ m; omega), hm]
                    show ((m - 32 : Nat) : Int) = _
                    omega
                  rw [hdm] at hcv
                  clear hd hdm
                  go_wp2_with fail
                  go_roundw
                  case rel => exact ⟨j + 1, y2, by omega, by go_num, rfl, HREL, HB3 _, HF3 _⟩
                  case measure => simp [intOf]; omega
                · have hdm : d.toNat = m := by
                    rw [← hd, if_pos rfl]
                    have hss : small T[j] = false := by unfold small; rw [hm]; simp; omega
                    unfold greatB
                    rw [if_neg (by rw [hss]; simp)]
                    exact hm
                  rw [hdm] at hcv
                  clear hd hdm
                  by_cases hlo : 97 ≤ m
                  · have hhi : ¬ m ≤ 122 := fun h => hsm ⟨hlo, h⟩
                    clear hsm
                    go_wp2_with fail
                    go_roundw
                    case rel => exact ⟨j + 1, y2, by omega, by go_num, rfl, HREL, HB3 _, HF3 _⟩
                    case measure => simp [intOf]; omega
                  · clear hsm
                    go_wp2_with fail
                    go_roundw
                    case rel => exact ⟨j + 1, y2, by omega, by go_num, rfl, HREL, HB3 _, HF3 _⟩
                    case measure => simp [intOf]; omega
            · go_wp2_with fail
              go_roundw
              case rel =>
                refine ⟨i + 1, by omega, by go_num, ?_, Lib.hid (HK.out.trans (HBL2.out.mono HK.out.size))⟩
                rw [HX'.out, HY.out, List.take_of_length_le (by have := HTS.out; omega)]
                cases g <;> simp [textW]
              case measure => simp [RowKit.intOf]; omega
      · have h00 : 0 < i := by omega
        obtain ⟨b, hbe⟩ : ∃ b, acc ++ [32] = b := ⟨_, rfl⟩
        have HX' : Hid (textL g (l.take (i + 1)) = b ++ textW g ⟨k, t, ii, p⟩) := by show _ = _; rw [HX.out, if_neg hi0, hbe]
        have HBL : Hid (b.length ≤ 1000000001) := by show _ ≤ _; rw [← hbe]; have := HACC.out; simp; omega
        have hz1 : ¬ 9223372036854775807 < (strU acc).size + 1 := by rw [strU_size]; have := HACC.out; omega
        have e32 : strU acc ++ ⟨#[32]⟩ = strU b := by rw [← hbe]; exact strU_append acc [32]
        clear hi0 hbe HX HACC
        have hz2 : ¬ 9223372036854775807 < (strU b).size + 1 := by rw [strU_size]; have := HBL.out; omega
        rcases hkk with rfl | rfl | rfl | rfl
        · obtain ⟨T, hT⟩ : ∃ T, strU t = T := ⟨_, rfl⟩
          rw [hT] at p1 HF HBN
          have HT := Lib.hid hT
          have HTS : Hid (T.size = t.length) := by show _ = _; rw [← hT, strU_size]
          have hTb : T.size ≤ 20000 := by rw [HTS.out]; exact htt
          clear hT
          have HWB : Hid (wo.heap.size < (wo.alloc (.cells #[.int .u8 ((1 : Nat) : Int), .string T, .int .i64 (ii : Int), .int .i64 (p : Int)] 29)).heap.size) := Lib.hid (by simp)
          go_wp2_with fail
          go_loopw [5, 9] (fun sv kv w2 => ∃ (j : Nat) (y : List UInt8), j ≤ T.size ∧ kv = .int .i64 j ∧ sv = .string (strU y) ∧ Hid (y = b ++ (t.take j).map (fun c => if g then greatB c else c)) ∧ Hid (Below wo.heap.size wo w2) ∧ Hid (Four w2 wo.heap.size 29 (.int .u8 ((1 : Nat) : Int)) (.string T) (.int .i64 (ii : Int)) (.int .i64 (p : Int)))) (fun _ kv _ => T.size - (intOf kv).toNat)
          case atStart => exact ⟨0, b, Nat.zero_le _, rfl, rfl, Lib.hid (by simp), HBN, HF⟩
          case round =>
            obtain ⟨j, y, hj, rfl, rfl, HY, HBL2, HF2⟩ := hrel
            obtain ⟨q0, q1, q2, q3⟩ := HF2.out.cells
            have hts := HTS.out
            have hyl : y.length ≤ 1000060000 := by
              rw [HY.out, List.length_append, List.length_map, List.length_take]
              have := HBL.out
              omega
            clear hts
            by_cases hjl : j < T.size
            · have hg : t[j]? = some T[j] := by rw [← str_get T j hjl, ← HT.out, strU_data]
              obtain ⟨m, hm⟩ : ∃ m, T[j].toNat = m := ⟨_, rfl⟩
              have hmlt := T[j].toNat_lt
              rw [hm] at hmlt
              have HN2 : Hid ((t.take (j + 1)).map (fun c => if g then greatB c else c) = (t.take j).map (fun c => if g then greatB c else c) ++ [if g then greatB T[j] else T[j]]) := by
                show _ = _
                rw [List.take_add_one, hg]; simp
              obtain ⟨d, hd⟩ : ∃ d, (if g then greatB T[j] else T[j]) = d := ⟨_, rfl⟩
              rw [hd] at HN2
              obtain ⟨y2, hy2⟩ : ∃ y2, y ++ [d] = y2 := ⟨_, rfl⟩
              have ey : strU y ++ strU [d] = strU y2 := by rw [← hy2]; exact strU_append _ _
              have hzx : ¬ 9223372036854775807 < (strU y).size + (strU [d]).size := by rw [strU_size, strU_size]; simp; omega
              have HY2 := Lib.hid hy2
              have hcv := one_conv wr d
              have HREL : Hid (y2 = b ++ (t.take (j + 1)).map (fun c => if g then greatB c else c)) := by show _ = _; rw [← HY2.out, HN2.out, HY.out]; simp
              have HB3 : ∀ o : Obj, Hid (Below wo.heap.size wo (wr.alloc o)) := fun o => Lib.hid (HBL2.out.trans ((below_alloc wr o).mono HBL2.out.size))
              have HF3 : ∀ o : Obj, Hid (Four (wr.alloc o) wo.heap.size 29 (.int .u8 ((1 : Nat) : Int)) (.string T) (.int .i64 (ii : Int)) (.int .i64 (p : Int))) := fun o => Lib.hid (HF2.out.kept (below_alloc wr o))
              clear hg hy2 hyl HN2
              cases g with
              | false =>
                have hdm : d.toNat = m := by rw [← hd]; exact hm
                rw [hdm] at hcv
                clear hd hdm
                go_wp2_with fail
                go_roundw
                case rel => exact ⟨j + 1, y2, by omega, by go_num, rfl, HREL, HB3 _, HF3 _⟩
                case measure => simp [intOf]; omega
              | true =>
                by_cases hsm : 97 ≤ m ∧ m ≤ 122
                · obtain ⟨hs1, hs2⟩ := hsm
                  have hdm : (d.toNat : Int) = (m : Int) - 32 := by
                    rw [← hd, if_pos rfl]
                    have hss : small T[j] = true := by unfold small; rw [hm]; simp; omega
                    unfold greatB
                    rw [if_pos hss, UInt8.toNat_sub_of_le _ _ (by rw [UInt8.le_iff_toNat_le, hm]; show 32 ≤ m; omega), hm]
                    show ((m - 32 : Nat) : Int) = _
                    omega
                  rw [hdm] at hcv
                  clear hd hdm
                  go_wp2_with fail
                  go_roundw
                  case rel => exact ⟨j + 1, y2, by omega, by go_num, rfl, HREL, HB3 _, HF3 _⟩
                  case measure => simp [intOf]; omega
                · have hdm : d.toNat = m := by
                    rw [← hd, if_pos rfl]
                    have hss : small T[j] = false := by unfold small; rw [hm]; simp; omega
                    unfold greatB
                    rw [if_neg (by rw [hss]; simp)]
                    exact hm
                  rw [hdm] at hcv
                  clear hd hdm
                  by_cases hlo : 97 ≤ m
                  · have hhi : ¬ m ≤ 122 := fun h => hsm ⟨hlo, h⟩
                    clear hsm
                    go_wp2_with fail
                    go_roundw
                    case rel => exact ⟨j + 1, y2, by omega, by go_num, rfl, HREL, HB3 _, HF3 _⟩
                    case measure => simp [intOf]; omega
                  · clear hsm
                    go_wp2_with fail
                    go_roundw
                    case rel => exact ⟨j + 1, y2, by omega, by go_num, rfl, HREL, HB3 _, HF3 _⟩
                    case measure => simp [intOf]; omega
            · go_wp2_with fail
              go_roundw
              case rel =>
                refine ⟨i + 1, by omega, by go_num, ?_, Lib.hid (HK.out.trans (HBL2.out.mono HK.out.size))⟩
                rw [HX'.out, HY.out, List.take_of_length_le (by have := HTS.out; omega)]
                cases g <;> simp [textW]
              case measure => simp [RowKit.intOf]; omega
        · have hzd : ¬ 9223372036854775807 < (strU b).size + (strU (digitsB ii)).size := by rw [strU_size, strU_size]; have := HBL.out; have := digitsB_len ii; omega
          have ed : strU b ++ strU (digitsB ii) = strU (b ++ digitsB ii) := strU_append _ _
          go_wp2_with (go_at_call 17; refine (digits_any ii hii _).mono ?_; rintro e w' ⟨rfl, rfl⟩)
          go_roundw
          case rel => exact ⟨i + 1, by omega, by go_num, by rw [HX'.out]; rfl, Lib.hid (HK.out.trans (HBN.out.mono HK.out.size))⟩
          case measure => simp [RowKit.intOf]; omega
        · obtain ⟨q0, q1, q2, q3⟩ := HF.out.cells
          obtain ⟨T, hT⟩ : ∃ T, strU t = T := ⟨_, rfl⟩
          rw [hT] at p1 q1 HF HBN
          have HT := Lib.hid hT
          have HTS : Hid (T.size = t.length) := by show _ = _; rw [← hT, strU_size]
          have hTb : T.size ≤ 20000 := by rw [HTS.out]; exact htt
          have e39 : strU b ++ ⟨#[39]⟩ = strU (b ++ [39]) := strU_append b [39]
          clear hT
          go_wp2_with fail
          go_loop [5, 8] (fun sv kv => ∃ (j : Nat) (y : List UInt8), j ≤ T.size ∧ kv = .int .i64 j ∧ sv = .string (strU y) ∧ Hid (y = b ++ [39] ++ dblB (t.take j))) (fun _ kv => T.size - (intOf kv).toNat)
          case atStart => exact ⟨0, b ++ [39], Nat.zero_le _, rfl, rfl, Lib.hid (by simp [dblB])⟩
          case round =>
            obtain ⟨j, y, hj, rfl, rfl, HY⟩ := hrel
            have hts := HTS.out
            have hyl : y.length ≤ 1000060000 := by
              rw [HY.out, List.length_append, List.length_append]
              have := dblB_len (t.take j)
              rw [List.length_take] at this
              have := HBL.out
              simp; omega
            have hzy : ¬ 9223372036854775807 < (strU y).size + 1 := by rw [strU_size]; omega
            clear hts
            by_cases hjl : j < T.size
            · have hg : t[j]? = some T[j] := by rw [← str_get T j hjl, ← HT.out, strU_data]
              have ex : T.extract j (j + 1) = strU [T[j]] := by
                have := strU_at t j T[j] hg
                rw [HT.out] at this; exact this
              obtain ⟨y2, hy2⟩ : ∃ y2, y ++ [T[j]] = y2 := ⟨_, rfl⟩
              have ey : strU y ++ strU [T[j]] = strU y2 := by rw [← hy2]; exact strU_append _ _
              have hzx : ¬ 9223372036854775807 < (strU y).size + (strU [T[j]]).size := by rw [strU_size, strU_size]; simp; omega
              have hzm : ¬ 9223372036854775807 < (strU y).size + (min (j + 1) T.size - j) := by rw [strU_size]; omega
              have hzy2 : ¬ 9223372036854775807 < (strU y2).size + 1 := by rw [← hy2, strU_size]; simp; omega
              have HN2 := Lib.hid (dblB_next t j T[j] hg)
              have HY2 := Lib.hid hy2
              clear hg hy2 hyl
              obtain ⟨m, hm⟩ : ∃ m, T[j].toNat = m := ⟨_, rfl⟩
              by_cases h39 : m = 39
              · have HC39 : Hid (T[j] = 39) := Lib.hid (u8_eq39 (hm.trans h39))
                subst h39
                obtain ⟨y3, hy3⟩ : ∃ y3, y2 ++ [39] = y3 := ⟨_, rfl⟩
                have ey3 : strU y2 ++ ⟨#[39]⟩ = strU y3 := by rw [← hy3]; exact strU_append _ _
                have HY3 := Lib.hid hy3
                clear hy3
                go_wp2_with fail
                go_round
                case rel =>
                  refine ⟨j + 1, y3, by omega, by go_num, rfl, Lib.hid ?_⟩
                  rw [← HY3.out, ← HY2.out, HN2.out, if_pos HC39.out, HC39.out, HY.out]; simp
                case measure => simp [intOf]; omega
              · have hmb : ((m : Int) == 39) = false := by rw [beq_eq_false_iff_ne]; omega
                have HC39 : Hid (¬ T[j] = 39) := Lib.hid (fun e => h39 (by rw [← hm, e]; rfl))
                clear h39
                go_wp2_with fail
                go_round
                case rel =>
                  refine ⟨j + 1, y2, by omega, by go_num, rfl, Lib.hid ?_⟩
                  rw [← HY2.out, HN2.out, if_neg HC39.out, HY.out]; simp
                case measure => simp [intOf]; omega
            · obtain ⟨y3, hy3⟩ : ∃ y3, y ++ [39] = y3 := ⟨_, rfl⟩
              have ey3 : strU y ++ ⟨#[39]⟩ = strU y3 := by rw [← hy3]; exact strU_append _ _
              have HY3 := Lib.hid hy3
              clear hy3
              go_wp2_with fail
              go_roundw
              case rel =>
                refine ⟨i + 1, by omega, by go_num, ?_, Lib.hid (HK.out.trans (HBN.out.mono HK.out.size))⟩
                rw [HX'.out, ← HY3.out, HY.out, List.take_of_length_le (by have := HTS.out; omega)]
                simp [textW]
              case measure => simp [RowKit.intOf]; omega
        · obtain ⟨T, hT⟩ : ∃ T, strU t = T := ⟨_, rfl⟩
          rw [hT] at p1 HF HBN
          have HT := Lib.hid hT
          have HTS : Hid (T.size = t.length) := by show _ = _; rw [← hT, strU_size]
          have hTb : T.size ≤ 20000 := by rw [HTS.out]; exact htt
          clear hT
          have HWB : Hid (wo.heap.size < (wo.alloc (.cells #[.int .u8 ((4 : Nat) : Int), .string T, .int .i64 (ii : Int), .int .i64 (p : Int)] 29)).heap.size) := Lib.hid (by simp)
          go_wp2_with fail
          go_loopw [5, 9] (fun sv kv w2 => ∃ (j : Nat) (y : List UInt8), j ≤ T.size ∧ kv = .int .i64 j ∧ sv = .string (strU y) ∧ Hid (y = b ++ (t.take j).map (fun c => if g then greatB c else c)) ∧ Hid (Below wo.heap.size wo w2) ∧ Hid (Four w2 wo.heap.size 29 (.int .u8 ((4 : Nat) : Int)) (.string T) (.int .i64 (ii : Int)) (.int .i64 (p : Int)))) (fun _ kv _ => T.size - (intOf kv).toNat)
          case atStart => exact ⟨0, b, Nat.zero_le _, rfl, rfl, Lib.hid (by simp), HBN, HF⟩
          case round =>
            obtain ⟨j, y, hj, rfl, rfl, HY, HBL2, HF2⟩ := hrel
            obtain ⟨q0, q1, q2, q3⟩ := HF2.out.cells
            have hts := HTS.out
            have hyl : y.length ≤ 1000060000 := by
              rw [HY.out, List.length_append, List.length_map, List.length_take]
              have := HBL.out
              omega
            clear hts
            by_cases hjl : j < T.size
            · have hg : t[j]? = some T[j] := by rw [← str_get T j hjl, ← HT.out, strU_data]
              obtain ⟨m, hm⟩ : ∃ m, T[j].toNat = m := ⟨_, rfl⟩
              have hmlt := T[j].toNat_lt
              rw [hm] at hmlt
              have HN2 : Hid ((t.take (j + 1)).map (fun c => if g then greatB c else c) = (t.take j).map (fun c => if g then greatB c else c) ++ [if g then greatB T[j] else T[j]]) := by
                show _ = _
                rw [List.take_add_one, hg]; simp
              obtain ⟨d, hd⟩ : ∃ d, (if g then greatB T[j] else T[j]) = d := ⟨_, rfl⟩
              rw [hd] at HN2
              obtain ⟨y2, hy2⟩ : ∃ y2, y ++ [d] = y2 := ⟨_, rfl⟩
              have ey : strU y ++ strU [d] = strU y2 := by rw [← hy2]; exact strU_append _ _
              have hzx : ¬ 9223372036854775807 < (strU y).size + (strU [d]).size := by rw [strU_size, strU_size]; simp; omega
              have HY2 := Lib.hid hy2
              have hcv := one_conv wr d
              have HREL : Hid (y2 = b ++ (t.take (j + 1)).map (fun c => if g then greatB c else c)) := by show _ = _; rw [← HY2.out, HN2.out, HY.out]; simp
              have HB3 : ∀ o : Obj, Hid (Below wo.heap.size wo (wr.alloc o)) := fun o => Lib.hid (HBL2.out.trans ((below_alloc wr o).mono HBL2.out.size))
              have HF3 : ∀ o : Obj, Hid (Four (wr.alloc o) wo.heap.size 29 (.int .u8 ((4 : Nat) : Int)) (.string T) (.int .i64 (ii : Int)) (.int .i64 (p : Int))) := fun o => Lib.hid (HF2.out.kept (below_alloc wr o))
              clear hg hy2 hyl HN2
              cases g with
              | false =>
                have hdm : d.toNat = m := by rw [← hd]; exact hm
                rw [hdm] at hcv
                clear hd hdm
                go_wp2_with fail
                go_roundw
                case rel => exact ⟨j + 1, y2, by omega, by go_num, rfl, HREL, HB3 _, HF3 _⟩
                case measure => simp [intOf]; omega
              | true =>
                by_cases hsm : 97 ≤ m ∧ m ≤ 122
                · obtain ⟨hs1, hs2⟩ := hsm
                  have hdm : (d.toNat : Int) = (m : Int) - 32 := by
                    rw [← hd, if_pos rfl]
                    have hss : small T[j] = true := by unfold small; rw [hm]; simp; omega
                    unfold greatB
                    rw [if_pos hss, UInt8.toNat_sub_of_le _ _ (by rw [UInt8.le_iff_toNat_le, hm]; show 32 ≤ m; omega), hm]
                    show ((m - 32 : Nat) : Int) = _
                    omega
                  rw [hdm] at hcv
                  clear hd hdm
                  go_wp2_with fail
                  go_roundw
                  case rel => exact ⟨j + 1, y2, by omega, by go_num, rfl, HREL, HB3 _, HF3 _⟩
                  case measure => simp [intOf]; omega
                · have hdm : d.toNat = m := by
                    rw [← hd, if_pos rfl]
                    have hss : small T[j] = false := by unfold small; rw [hm]; simp; omega
                    unfold greatB
                    rw [if_neg (by rw [hss]; simp)]
                    exact hm
                  rw [hdm] at hcv
                  clear hd hdm
                  by_cases hlo : 97 ≤ m
                  · have hhi : ¬ m ≤ 122 := fun h => hsm ⟨hlo, h⟩
                    clear hsm
                    go_wp2_with fail
                    go_roundw
                    case rel => exact ⟨j + 1, y2, by omega, by go_num, rfl, HREL, HB3 _, HF3 _⟩
                    case measure => simp [intOf]; omega
                  · clear hsm
                    go_wp2_with fail
                    go_roundw
                    case rel => exact ⟨j + 1, y2, by omega, by go_num, rfl, HREL, HB3 _, HF3 _⟩
                    case measure => simp [intOf]; omega
            · go_wp2_with fail
              go_roundw
              case rel =>
                refine ⟨i + 1, by omega, by go_num, ?_, Lib.hid (HK.out.trans (HBL2.out.mono HK.out.size))⟩
                rw [HX'.out, HY.out, List.take_of_length_le (by have := HTS.out; omega)]
                cases g <;> simp [textW]
              case measure => simp [RowKit.intOf]; omega
    · obtain rfl : i = n := by omega
      go_wp2_with fail
      go_ret
      refine ⟨?_, HK.out⟩
      rw [List.take_of_length_le (by rw [HN.out]; exact Nat.le_refl _)]
      rfl
end Go.Proofs.YtfdjeaieddcgdaaDoor
