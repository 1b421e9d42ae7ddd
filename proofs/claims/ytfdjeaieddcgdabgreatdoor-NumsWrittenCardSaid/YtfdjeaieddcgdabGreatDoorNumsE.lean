/-
  WHAT IS PROVED: contracts of package nums: GetSigned, GetText.
-/
import Derived.Test.YtfdjeaieddcgdabGreatDoorNumsD
namespace Go.Proofs.YtfdjeaieddcgdabGreatDoor
open Go.RowKit

/-- what GetSigned hands back -/
def GotSigned (l : List Nat) (w : World) (e : Ending) (w' : World) : Prop :=
  ∃ v t er : Nat, getL l = (v, t, er) ∧ e = .returned (.tuple #[.int .i64 (unfoldN v), .int .i64 (t : Int), .int .i64 (er : Int)]) ∧ Below w.heap.size w w'

theorem getSigned_any (ao : Option Addr) (n cap : Nat) (l : List Nat) (w : World) (hr : Row8 w ao n cap l) :
    Calls Tryz.prog 269 #[.slice ao n cap] w (GotSigned l w) := by
  have HR := Lib.hid hr
  clear hr
  go_enter Tryz.func269, Tryz.ntmps269
  go_wp2_with fail
  refine (get_any ao n cap l w HR.out).mono ?_
  rintro e w1 ⟨v, t, er, hg, rfl, hb⟩
  have HG := Lib.hid hg
  rcases getL_facts hg with ⟨rfl, h1, h2, h3⟩ | ⟨rfl, rfl, h1⟩
  · clear hg
    go_wp2_with (go_at_call 313; refine (unfold_any v h3 _).mono ?_; rintro e w' ⟨rfl, rfl⟩)
    go_ret3
    exact ⟨v, t, 0, HG.out, rfl, hb⟩
  · clear hg
    rcases h1 with rfl | rfl
    all_goals
      go_wp2
      go_ret3
      exact ⟨0, 0, _, HG.out, rfl, hb⟩

/-- what GetText hands back -/
def GotText (l : List Nat) (w : World) (e : Ending) (w' : World) : Prop :=
  ∃ s t er, gtL l = (s, t, er) ∧ e = .returned (.tuple #[.string (strB s), .int .i64 (t : Int), .int .i64 (er : Int)]) ∧ Below w.heap.size w w'

theorem gtL_err {l : List Nat} {v t er : Nat} (h : getL l = (v, t, er)) (he : er ≠ 0) : gtL l = ([], 0, er) := by
  simp [gtL, h, he]
theorem gtL_short {l : List Nat} {v t : Nat} (h : getL l = (v, t, 0)) (he : l.length - t < v) : gtL l = ([], 0, 5) := by
  simp [gtL, h, he]
theorem gtL_ok {l : List Nat} {v t : Nat} (h : getL l = (v, t, 0)) (he : ¬ l.length - t < v) : gtL l = ((l.drop t).take v, t + v, 0) := by
  simp [gtL, h, he]

theorem getL_nil : getL [] = (0, 0, 5) := rfl

set_option maxHeartbeats 1000000 in
theorem getText_any (ao : Option Addr) (n cap : Nat) (l : List Nat) (w : World) (hr : Row8 w ao n cap l) :
    Calls Tryz.prog 297 #[.slice ao n cap] w (GotText l w) := by
  have HR := Lib.hid hr
  have hlen := Lib.hid hr.len
  have hroom := hr.room
  have hmost := hr.most
  clear hr
  go_enter Tryz.func297, Tryz.ntmps297
  go_wp2_with fail
  refine (get_any ao n cap l w HR.out).mono ?_
  rintro e w1 ⟨v, t, er, hg, rfl, hb⟩
  have HG := Lib.hid hg
  rcases getL_facts hg with ⟨rfl, h1, h2, h3⟩ | ⟨rfl, rfl, h1⟩
  · have hln : l.length = n := hlen.out
    rw [hln] at h2
    have HN := Lib.hid hln
    obtain ⟨b, off, rfl, hcell⟩ := (HR.out.kept hb).lies (by omega)
    clear hg hln
    by_cases hv : n - t < v
    · have HC := Lib.hid hcell
      clear hcell
      by_cases hcap : cap = t
      all_goals
        go_wp2
        go_ret3
        exact ⟨[], 0, 5, gtL_short HG.out (by rw [HN.out]; exact hv), rfl, hb⟩
    · have HC := Lib.hid hcell
      have hfin := Lib.hid (gtL_ok HG.out (by rw [HN.out]; exact hv))
      clear hcell
      by_cases hcap : cap = t
      · obtain rfl : n = t := by omega
        obtain rfl : v = 0 := by omega
        subst hcap
        have hcv := run_convert_bytes_arg (P := Tryz.prog) w1 29 5 Tryz.underlying29 Tryz.underlying5 b off 0 0 [] rfl (fun i hi => by omega) 9 Tryz.underlying9
        go_wp2
        go_ret3
        refine ⟨[], _, 0, ?_, rfl, hb⟩
        rw [hfin.out]; simp
      · have hcv := run_convert_bytes_arg (P := Tryz.prog) w1 29 5 Tryz.underlying29 Tryz.underlying5 b (off + t) v (cap - t) (((l.drop t).take v).map fun x : Nat => (x : Int))
          (by have := HN.out; simp; omega)
          (fun i hi => by
            have hln := HN.out
            have hi2 : t + i < l.length := by omega
            rw [Nat.add_assoc, HC.out (t + i) (l[t + i]) (by simp [hi2])]
            simp [List.getD, hi, hi2]) 9 Tryz.underlying9
        rw [strB_eq] at hcv
        go_wp2
        go_ret3
        exact ⟨_, t + v, 0, hfin.out, rfl, hb⟩
  · clear hg
    rcases h1 with rfl | rfl
    all_goals
      go_wp2
      go_ret3
      exact ⟨[], 0, _, gtL_err HG.out (by decide), rfl, hb⟩
end Go.Proofs.YtfdjeaieddcgdabGreatDoor
