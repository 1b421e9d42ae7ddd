/-
  WHAT IS PROVED: contract of Text.
-/
import Derived.Test.YtjjfmmimmfihgaaDoorValH
namespace Go.Proofs.YtjjfmmimmfihgaaDoor
open Go.RowKit Go.Lib

theorem quote_text (l : List UInt8) : ((⟨#[39]⟩ : ByteArray) ++ ⟨l.toArray⟩) ++ ⟨#[39]⟩ = ⟨(39 :: l ++ [39]).toArray⟩ := by
  apply ByteArray.ext
  simp

theorem replace_any (s : ByteArray) (hs : s.size ≤ 512) (w : World) (hw : Wd w) :
    Calls Tryd.prog 44 #[.string s, .string ⟨#[39]⟩, .string ⟨#[39, 39]⟩] w fun e w' => e = .returned (.string ⟨(Val.dbl s.data.toList).toArray⟩) ∧ Below w.heap.size w w' := by
  obtain ⟨m, hm⟩ := hw.max
  have hc := countB_mul_le ⟨#[39]⟩ (by decide) s.size s (Nat.le_refl _)
  have h1 : (⟨#[39]⟩ : ByteArray).size = 1 := rfl
  have h2 : (⟨#[39, 39]⟩ : ByteArray).size = 2 := rfl
  rw [h1] at hc
  have := Tryd.strings_ReplaceAll s ⟨#[39]⟩ ⟨#[39, 39]⟩ m w (by omega) hm (by decide) (by rw [h2]; omega)
  have he : replaceAll s.data.toList (⟨#[39]⟩ : ByteArray).data.toList (⟨#[39, 39]⟩ : ByteArray).data.toList = Val.dbl s.data.toList := replace_dbl _
  rw [he] at this
  exact this

set_option maxRecDepth 100000 in
set_option maxHeartbeats 2000000 in
theorem text_any (k : Nat) (i : Int) (s : ByteArray) (w : World) (hk : k < 256) (i0 : -9223372036854775808 ≤ i) (i1 : i ≤ 9223372036854775807) (hw : Wd w) :
    Calls Tryd.prog 16 #[.agg #[.int .u8 (k : Int), .int .i64 i, .string s]] w fun e w' => e = .returned (.string (Val.text ⟨k, i, s⟩)) ∧ Below w.heap.size w w' := by
  have HW := Lib.hid hw
  clear hw
  by_cases hf : Val.fine ⟨k, i, s⟩ = true
  · rcases Val.fine_cases hf with h | ⟨n, h⟩ | ⟨t, h, ht⟩
    · obtain ⟨rfl, rfl, rfl⟩ := Val.mk.inj h
      go_enter Tryd.func16, Tryd.ntmps16
      go_wp2_with (go_at_call 32; refine (check_any _ _ _ _ hk).mono ?_; rw [hf]; rintro e w1 ⟨rfl, hb⟩; obtain ⟨hc, hg⟩ := bcell hb)
      go_ret
      exact ⟨rfl, below_step (Below.refl _ _) hb⟩
    · obtain ⟨rfl, rfl, rfl⟩ := Val.mk.inj h
      by_cases hm : i = -9223372036854775808
      · have ht : Val.text ⟨1, i, noS⟩ = ⟨#[40, 45, 57, 50, 50, 51, 51, 55, 50, 48, 51, 54, 56, 53, 52, 55, 55, 53, 56, 48, 55, 32, 45, 32, 49, 41]⟩ := by subst hm; decide +kernel
        have hm2 : (i == -9223372036854775808) = true := by rw [hm]; rfl
        rw [ht]
        clear hm ht
        go_enter Tryd.func16, Tryd.ntmps16
        go_wp2_with (go_at_call 32; refine (check_any _ _ _ _ hk).mono ?_; rw [hf]; rintro e w1 ⟨rfl, hb⟩; obtain ⟨hc, hg⟩ := bcell hb)
        go_ret
        exact ⟨rfl, below_step (Below.refl _ _) hb⟩
      · have ht : Val.text ⟨1, i, noS⟩ = ⟨(itoa i).toArray⟩ := Val.text_num i hm
        have hm2 : (i == -9223372036854775808) = false := by simpa using hm
        rw [ht]
        clear hm ht
        go_enter Tryd.func16, Tryd.ntmps16
        go_wp2_with (first | (go_at_call 32; refine (check_any _ _ _ _ hk).mono ?_; rw [hf]; rintro e w1 ⟨rfl, hb⟩; obtain ⟨hc, hg⟩ := bcell hb) | (go_at_call 45; refine (format_any _ _ (HW.out.kept (below_step (Below.refl _ _) hb)) i0 i1).mono ?_; rintro e w2 ⟨rfl, hb2⟩))
        go_ret
        exact ⟨rfl, below_next (below_step (Below.refl _ _) hb) hb2⟩
    · obtain ⟨rfl, rfl, rfl⟩ := Val.mk.inj h
      have hx : Val.text ⟨2, 0, s⟩ = ⟨(39 :: Val.dbl s.data.toList ++ [39]).toArray⟩ := Val.text_txt s ht
      have hdl := dbl_length s.data.toList
      have hcl : s.data.toList.count 39 ≤ s.data.toList.length := List.count_le_length
      have hsl : s.data.toList.length = s.size := rfl
      have hsz : (⟨(Val.dbl s.data.toList).toArray⟩ : ByteArray).size ≤ 1024 := by show (Val.dbl s.data.toList).toArray.size ≤ 1024; rw [List.size_toArray]; omega
      rw [hx, ← quote_text]
      have hrep := fun w hw => replace_any s ht w hw
      clear hx hdl hcl hsl h
      generalize (⟨(Val.dbl s.data.toList).toArray⟩ : ByteArray) = q at *
      have k1 : ¬ 9223372036854775807 < (⟨#[39]⟩ : ByteArray).size + q.size := by have : (⟨#[39]⟩ : ByteArray).size = 1 := rfl; omega
      have k2 : ¬ 9223372036854775807 < ((⟨#[39]⟩ : ByteArray) ++ q).size + (⟨#[39]⟩ : ByteArray).size := by have : (⟨#[39]⟩ : ByteArray).size = 1 := rfl; rw [ByteArray.size_append]; omega
      go_enter Tryd.func16, Tryd.ntmps16
      go_wp2_with (first | (go_at_call 32; refine (check_any _ _ _ _ hk).mono ?_; rw [hf]; rintro e w1 ⟨rfl, hb⟩; obtain ⟨hc, hg⟩ := bcell hb) | (go_at_call 44; refine (hrep _ (HW.out.kept (below_step (Below.refl _ _) hb))).mono ?_; rintro e w2 ⟨rfl, hb2⟩))
      go_ret
      exact ⟨rfl, below_next (below_step (Below.refl _ _) hb) hb2⟩
  · rw [Bool.not_eq_true] at hf
    have ht : Val.text ⟨k, i, s⟩ = noS := if_pos hf
    rw [ht]
    clear ht
    go_enter Tryd.func16, Tryd.ntmps16
    go_wp2_with (go_at_call 32; refine (check_any _ _ _ _ hk).mono ?_; rw [hf]; rintro e w1 ⟨rfl, hb⟩; obtain ⟨hc, hg⟩ := bcell hb)
    go_ret
    exact ⟨rfl, below_step (Below.refl _ _) hb⟩
end Go.Proofs.YtjjfmmimmfihgaaDoor
