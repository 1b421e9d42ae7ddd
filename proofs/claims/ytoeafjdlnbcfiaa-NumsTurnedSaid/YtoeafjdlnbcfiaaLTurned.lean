/-
  WHAT IS PROVED: the walk of NumsTurned.
-/
import Derived.Test.YtoeafjdlnbcfiaaQuiet
import Derived.Test.YtoeafjdlnbcfiaaLDigits
import Derived.Test.YtoeafjdlnbcfiaaTurnPure
namespace Go.Proofs.Ytoeafjdlnbcfiaa
open Go.RowKit

/-- the end of a slice, as Go lays it: behind the array's end the address stays -/
def Tail (w : World) (b off n cap k : Nat) (r : List Nat) : Prop :=
  (cap = k → Row8 w (some ⟨b, off, none⟩) (n - k) 0 r) ∧ (k < cap → Row8 w (some ⟨b, off + k, none⟩) (n - k) (cap - k) r)

theorem tail_unfold {w : World} {b off n cap k : Nat} {r : List Nat} : Tail w b off n cap k r = ((cap = k → Row8 w (some ⟨b, off, none⟩) (n - k) 0 r) ∧ (k < cap → Row8 w (some ⟨b, off + k, none⟩) (n - k) (cap - k) r)) := rfl

theorem Row8.tail {w : World} {b off n cap : Nat} {l : List Nat} (h : Row8 w (some ⟨b, off, none⟩) n cap l) (k : Nat) (hk : k ≤ n) : Tail w b off n cap k (l.drop k) := by
  have h1 := h.len
  have h2 := h.room
  refine ⟨fun e => ?_, fun hc => h.from k hk hc⟩
  rw [List.drop_eq_nil_of_le (by omega)]
  rw [show n - k = 0 by omega]
  exact Row8.empty (fun h => by simp at h) (by omega)

set_option maxRecDepth 100000 in
set_option maxHeartbeats 4000000 in
theorem walk_NumsTurned (x : Int) (hx0 : (Lit.int .i64 x).wf = true) (a : Option Addr) (len cap : Nat) (l : List Nat) (w : World) (hrow : Row8 w a len cap l) :
    Calls Try.prog 7 #[.int .i64 x, .slice a len cap] w fun e w' => e = .returned (.bool true) ∧ Below w.heap.size w w' := by
  have hx := wf_i64 hx0
  have hroom := hrow.room
  have hmost := hrow.most
  have HR := Lib.hid hrow
  clear hrow hx0
  by_cases hbig : 1048576 < len
  · have hd : decide (1048576 < len) = true := by simpa using hbig
    go_enter Try.func7, Try.ntmps7
    go_wp2_with (first | (go_at_call 10; refine (beyond_one len w (by omega) _ hd).mono ?_; rintro e w' ⟨rfl, rfl⟩) | (go_at_call 20; refine (alive_any _).mono ?_; rintro e w2 ⟨rfl, hb2⟩))
    go_ret
    exact ⟨rfl, below_step (Below.refl _ _) hb2⟩
  · have hd : decide (1048576 < len) = false := by simpa using hbig
    have hnot := not_i64 x hx
    have hx' : -9223372036854775808 ≤ -1 - x ∧ -1 - x ≤ 9223372036854775807 := by omega
    obtain ⟨p, q, r, hp, hq, hpb, hqb, hpq, hp0, hp1⟩ := turned x
    have hxor := u8_xor_nat p q hpb hqb
    rw [hpq] at hxor
    have hand := and1_u8 p hpb
    obtain ⟨y, hy⟩ : ∃ y, y = -1 - x := ⟨_, rfl⟩
    rw [← hy] at hnot hx' hq
    have HY := Lib.hid hy
    have HP := Lib.hid hp
    have HQ := Lib.hid hq
    clear hy hp hq hpq
    go_enter Try.func7, Try.ntmps7
    go_wp2_with (go_at_call 10; refine (beyond_one len w (by omega) _ hd).mono ?_; rintro e w' ⟨rfl, rfl⟩)
    refine (putSigned_any a len cap l x hx _ (HR.out.alloc _) (by omega)).mono ?_
    rintro e w1 ⟨ax, nx, cx, rfl, hr, _, hb⟩
    have B1 := Lib.hid (below_step (Below.refl w.heap.size w) hb)
    have RX1 := Lib.hid hr
    clear hr hb
    go_wp2_with fail
    refine (putSigned_any a len cap l y hx' _ (HR.out.kept B1.out) (by omega)).mono ?_
    rintro e w2 ⟨ay, ny, cy, rfl, hr, _, hb⟩
    have B2 := Lib.hid (below_next B1.out hb)
    have RX := Lib.hid (RX1.out.kept hb)
    have RY := Lib.hid hr
    have RB := Lib.hid (HR.out.kept B2.out)
    have hlx : (l ++ vb (foldN x)).length = nx := RX.out.len
    have hly : (l ++ vb (foldN y)).length = ny := RY.out.len
    have hll : l.length = len := RB.out.len
    rw [List.length_append, HP.out, List.length_cons, hll] at hlx
    rw [List.length_append, HQ.out, List.length_cons, hll] at hly
    obtain rfl : nx = ny := by omega
    have hgt : len < nx := by omega
    have cx1 := RX.out.room
    have cx2 := RX.out.most
    have cy1 := RY.out.room
    have cy2 := RY.out.most
    obtain ⟨bx, ox, rfl, hcx⟩ := RX.out.lies (by omega)
    obtain ⟨by_, oy, rfl, hcy⟩ := RY.out.lies (by omega)
    have h1 := hcx len p (by rw [HP.out]; simp [hll])
    have h2 := hcy len q (by rw [HQ.out]; simp [hll])
    have hx1 := bwOf_cell w2 _ _ h1
    have hx2 := bwOf_cell w2 _ _ h2
    have TX : Hid (Tail w2 bx ox nx cx (len + 1) r) := by
      have := RX.out.tail (len + 1) (by omega)
      rw [HP.out] at this
      have e : (l ++ p :: r).drop (len + 1) = r := by rw [← hll, List.drop_append]; simp
      rw [e] at this; exact this
    have TY : Hid (Tail w2 by_ oy nx cy (len + 1) r) := by
      have := RY.out.tail (len + 1) (by omega)
      rw [HQ.out] at this
      have e : (l ++ q :: r).drop (len + 1) = r := by rw [← hll, List.drop_append]; simp
      rw [e] at this; exact this
    have PX : Hid (Row8 w2 (some ⟨bx, ox, none⟩) len cx l) := by
      have := RX.out.upto len (by omega)
      rw [show (l ++ vb (foldN x)).take len = l by rw [← hll]; simp] at this
      exact this
    have EX : Hid (Row8 w2 (some ⟨bx, ox + len, none⟩) (nx - len) (cx - len) (vb (foldN x))) := by
      have := RX.out.from len (by omega) (by omega)
      rw [show (l ++ vb (foldN x)).drop len = vb (foldN x) by rw [← hll]; simp] at this
      exact this
    have EY : Hid (Row8 w2 (some ⟨by_, oy + len, none⟩) (nx - len) (cy - len) (vb (foldN y))) := by
      have := RY.out.from len (by omega) (by omega)
      rw [show (l ++ vb (foldN y)).drop len = vb (foldN y) by rw [← hll]; simp] at this
      exact this
    have hvx : (vb (foldN x)).length = nx - len := by rw [HP.out, List.length_cons]; omega
    have hvy : (vb (foldN y)).length = nx - len := by rw [HQ.out, List.length_cons]; omega
    have GX : Hid (getL (vb (foldN x)) = (foldN x, nx - len, 0)) := by
      have := getL_vb (foldN x) (fold_lt x hx) []
      rw [List.append_nil, hvx] at this; exact this
    have GY : Hid (getL (vb (foldN y)) = (foldN y, nx - len, 0)) := by
      have := getL_vb (foldN y) (fold_lt y hx') []
      rw [List.append_nil, hvy] at this; exact this
    clear hr hb hlx hly hll hcx hcy h1 h2 RX1 RX RY hvx hvy
    have hle1 : decide (nx ≤ len) = false := by simp; omega
    have hcast : (nx : Int) - (len : Int) = ((nx - len : Nat) : Int) := by omega
    by_cases hn : x < 0
    · have hpz := hp1 hn
      rw [hpz] at hand
      have hdl : decide (x < 0) = true := by simpa using hn
      clear hpz hp0 hp1
      by_cases hone : nx = len + 1
      · subst hone
        clear hle1 hcast
        have hle2 : decide ((len : Int) + 1 ≤ (len : Int)) = false := by simp; omega
        simp only [tail_unfold, Nat.sub_self, Nat.add_sub_cancel_left] at TX TY EX EY GX GY
        rcases Nat.eq_or_lt_of_le (show len + 1 ≤ cx by omega) with rfl | hc1
        all_goals
          rcases Nat.eq_or_lt_of_le (show len + 1 ≤ cy by omega) with rfl | hc2
          all_goals
            (try simp only [Nat.add_sub_cancel_left] at EX)
            (try simp only [Nat.add_sub_cancel_left] at EY)
            go_wp2_with fail
            refine wp_region_bw (w := w2) (by kernel_rfl) (by kernel_rfl) ?_
            repeat (go_big_quiet_step ((go_at_call 22; first | exact below_of (sameBytes_at _ _ _ _ _ _ l _ (bwOf_row PX.out _) (bwOf_row RB.out _)) | exact below_of (sameBytes_at _ _ _ _ _ _ r _ (bwOf_row (by first | exact TX.out.1 (by simp) | exact TX.out.2 (by omega)) _) (bwOf_row (by first | exact TY.out.1 (by simp) | exact TY.out.2 (by omega)) _)))))
            refine wpQuiet_nil ?_
            rintro w3 ⟨m3, rfl⟩
            have EX3 := Lib.hid (bwOf_row EX.out m3)
            have EY3 := Lib.hid (bwOf_row EY.out m3)
            have B3 := Lib.hid (below_next B2.out (bwOf_below w2 m3))
            generalize bwOf w2 m3 = w3 at *
            clear hx1 hx2
            go_wp2_with fail
            with_reducible refine (getSigned_at _ _ _ _ _ EX3.out _ _ _ x GX.out (unfold_fold x)).mono ?_
            rintro e w4 ⟨rfl, hb4⟩
            have EY4 := Lib.hid (EY3.out.kept hb4)
            have B4 := Lib.hid (below_next B3.out hb4)
            clear hb4
            go_wp2_with fail
            with_reducible refine (getSigned_at _ _ _ _ _ EY4.out _ _ _ y GY.out (unfold_fold y)).mono ?_
            rintro e w5 ⟨rfl, hb5⟩
            have B5 := Lib.hid (below_next B4.out hb5)
            clear hb5
            go_wp2_with fail
            refine (alive_any _).mono ?_
            rintro e w6 ⟨rfl, hb6⟩
            have hc3 : (len : Int) + 1 - (len : Int) = 1 := by omega
            clear hgt hle2 PX EX EY TX TY GX GY EX3 EY3 EY4 RB HP HQ HR cx1 cx2 cy1 cy2
            go_wp2
            go_ret
            exact ⟨rfl, below_next B5.out hb6⟩
      · have hc1 : len + 1 < cx := by omega
        have hc2 : len + 1 < cy := by omega
        go_wp2_with fail
        refine wp_region_bw (w := w2) (by kernel_rfl) (by kernel_rfl) ?_
        repeat (go_big_quiet_step ((go_at_call 22; first | exact below_of (sameBytes_at _ _ _ _ _ _ l _ (bwOf_row PX.out _) (bwOf_row RB.out _)) | exact below_of (sameBytes_at _ _ _ _ _ _ r _ (bwOf_row (by exact TX.out.2 (by omega)) _) (bwOf_row (by exact TY.out.2 (by omega)) _)))))
        refine wpQuiet_nil ?_
        rintro w3 ⟨m3, rfl⟩
        have EX3 := Lib.hid (bwOf_row EX.out m3)
        have EY3 := Lib.hid (bwOf_row EY.out m3)
        have B3 := Lib.hid (below_next B2.out (bwOf_below w2 m3))
        generalize bwOf w2 m3 = w3 at *
        clear hx1 hx2
        go_wp2_with fail
        with_reducible refine (getSigned_at _ _ _ _ _ EX3.out _ _ _ x GX.out (unfold_fold x)).mono ?_
        rintro e w4 ⟨rfl, hb4⟩
        have EY4 := Lib.hid (EY3.out.kept hb4)
        have B4 := Lib.hid (below_next B3.out hb4)
        clear hb4
        go_wp2_with fail
        with_reducible refine (getSigned_at _ _ _ _ _ EY4.out _ _ _ y GY.out (unfold_fold y)).mono ?_
        rintro e w5 ⟨rfl, hb5⟩
        have B5 := Lib.hid (below_next B4.out hb5)
        clear hb5
        go_wp2_with fail
        refine (alive_any _).mono ?_
        rintro e w6 ⟨rfl, hb6⟩
        go_wp2
        go_ret
        exact ⟨rfl, below_next B5.out hb6⟩
    · have hpz := hp0 (by omega)
      rw [hpz] at hand
      have hdl : decide (x < 0) = false := by simpa using hn
      clear hpz hp0 hp1
      by_cases hone : nx = len + 1
      · subst hone
        clear hle1 hcast
        have hle2 : decide ((len : Int) + 1 ≤ (len : Int)) = false := by simp; omega
        simp only [tail_unfold, Nat.sub_self, Nat.add_sub_cancel_left] at TX TY EX EY GX GY
        rcases Nat.eq_or_lt_of_le (show len + 1 ≤ cx by omega) with rfl | hc1
        all_goals
          rcases Nat.eq_or_lt_of_le (show len + 1 ≤ cy by omega) with rfl | hc2
          all_goals
            (try simp only [Nat.add_sub_cancel_left] at EX)
            (try simp only [Nat.add_sub_cancel_left] at EY)
            go_wp2_with fail
            refine wp_region_bw (w := w2) (by kernel_rfl) (by kernel_rfl) ?_
            repeat (go_big_quiet_step ((go_at_call 22; first | exact below_of (sameBytes_at _ _ _ _ _ _ l _ (bwOf_row PX.out _) (bwOf_row RB.out _)) | exact below_of (sameBytes_at _ _ _ _ _ _ r _ (bwOf_row (by first | exact TX.out.1 (by simp) | exact TX.out.2 (by omega)) _) (bwOf_row (by first | exact TY.out.1 (by simp) | exact TY.out.2 (by omega)) _)))))
            refine wpQuiet_nil ?_
            rintro w3 ⟨m3, rfl⟩
            have EX3 := Lib.hid (bwOf_row EX.out m3)
            have EY3 := Lib.hid (bwOf_row EY.out m3)
            have B3 := Lib.hid (below_next B2.out (bwOf_below w2 m3))
            generalize bwOf w2 m3 = w3 at *
            clear hx1 hx2
            go_wp2_with fail
            with_reducible refine (getSigned_at _ _ _ _ _ EX3.out _ _ _ x GX.out (unfold_fold x)).mono ?_
            rintro e w4 ⟨rfl, hb4⟩
            have EY4 := Lib.hid (EY3.out.kept hb4)
            have B4 := Lib.hid (below_next B3.out hb4)
            clear hb4
            go_wp2_with fail
            with_reducible refine (getSigned_at _ _ _ _ _ EY4.out _ _ _ y GY.out (unfold_fold y)).mono ?_
            rintro e w5 ⟨rfl, hb5⟩
            have B5 := Lib.hid (below_next B4.out hb5)
            clear hb5
            go_wp2_with fail
            refine (alive_any _).mono ?_
            rintro e w6 ⟨rfl, hb6⟩
            have hc3 : (len : Int) + 1 - (len : Int) = 1 := by omega
            clear hgt hle2 PX EX EY TX TY GX GY EX3 EY3 EY4 RB HP HQ HR cx1 cx2 cy1 cy2
            go_wp2
            go_ret
            exact ⟨rfl, below_next B5.out hb6⟩
      · have hc1 : len + 1 < cx := by omega
        have hc2 : len + 1 < cy := by omega
        go_wp2_with fail
        refine wp_region_bw (w := w2) (by kernel_rfl) (by kernel_rfl) ?_
        repeat (go_big_quiet_step ((go_at_call 22; first | exact below_of (sameBytes_at _ _ _ _ _ _ l _ (bwOf_row PX.out _) (bwOf_row RB.out _)) | exact below_of (sameBytes_at _ _ _ _ _ _ r _ (bwOf_row (by exact TX.out.2 (by omega)) _) (bwOf_row (by exact TY.out.2 (by omega)) _)))))
        refine wpQuiet_nil ?_
        rintro w3 ⟨m3, rfl⟩
        have EX3 := Lib.hid (bwOf_row EX.out m3)
        have EY3 := Lib.hid (bwOf_row EY.out m3)
        have B3 := Lib.hid (below_next B2.out (bwOf_below w2 m3))
        generalize bwOf w2 m3 = w3 at *
        clear hx1 hx2
        go_wp2_with fail
        with_reducible refine (getSigned_at _ _ _ _ _ EX3.out _ _ _ x GX.out (unfold_fold x)).mono ?_
        rintro e w4 ⟨rfl, hb4⟩
        have EY4 := Lib.hid (EY3.out.kept hb4)
        have B4 := Lib.hid (below_next B3.out hb4)
        clear hb4
        go_wp2_with fail
        with_reducible refine (getSigned_at _ _ _ _ _ EY4.out _ _ _ y GY.out (unfold_fold y)).mono ?_
        rintro e w5 ⟨rfl, hb5⟩
        have B5 := Lib.hid (below_next B4.out hb5)
        clear hb5
        go_wp2_with fail
        refine (alive_any _).mono ?_
        rintro e w6 ⟨rfl, hb6⟩
        go_wp2
        go_ret
        exact ⟨rfl, below_next B5.out hb6⟩
end Go.Proofs.Ytoeafjdlnbcfiaa
