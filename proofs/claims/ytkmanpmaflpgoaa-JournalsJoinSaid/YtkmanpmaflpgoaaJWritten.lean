/-
  WHAT IS PROVED: contract of journals: a record as it is written.
-/
import Derived.Test.YtkmanpmaflpgoaaJCut
import Derived.Deep.RegionLaw
import Derived.Deep.RegionHeld3
namespace Go.Proofs.Ytkmanpmaflpgoaa
open Go.RowKit Go.Lib

/-- what is left of a slice, and a flag: for the loop's measure -/
def lenV : Value → Nat
  | .slice _ n _ => n
  | _ => 0
def flagV : Value → Nat
  | .bool true => 1
  | _ => 0

/-- where the writing of a record is -/
def WrRel (r : List Nat) (a : Nat) (ao : Option Addr) (w : World) (rec b begins : Value) (wr : World) : Prop :=
  ∃ (k m : Nat) (bg : Bool) (v : Value) (xs : List Nat) (ao' : Option Addr) (cap' : Nat), Hid (k + m = r.length) ∧ m ≤ r.length ∧ rec = .slice ao' m cap' ∧ b = v ∧ begins = .bool bg ∧
    Hid (Row8 wr ao' m cap' (r.drop k)) ∧ Hid (∀ a', ao' = some a' → ∃ a, ao = some a ∧ a'.block = a.block) ∧ Hid (wr.ownsRow 0 5 1 v xs.length (cells8 xs)) ∧ Hid (∀ b, v.ownBlock = some b → w.heap.size ≤ b) ∧ Hid (Below w.heap.size w wr) ∧
    Hid ((if bg = true ∨ 0 < m then xs ++ partsB (a + xs.length) bg (r.drop k) else xs) = writtenB r a) ∧ Hid ((bg = true ∨ 0 < m) → 7 < roomN (a + xs.length)) ∧ Hid (xs.length ≤ (writtenB r a).length)

theorem WrRel.start (r : List Nat) (a m : Nat) (ao : Option Addr) (cap : Nat) (w : World) (hr : Row8 w ao r.length cap r) (hm : m = startN a - a) (ms : Array Value) (hms : ms = (cells8 (List.replicate m 0)).toArray) :
    WrRel r a ao w (.slice ao r.length cap) (.slice (some ⟨w.heap.size, 0, none⟩) m m) (.bool true) (w.alloc (.cells ms 5)) := by
  have hsg := startN_ge a
  have hla : a + (List.replicate m 0).length = startN a := by rw [List.length_replicate]; omega
  refine ⟨0, r.length, true, _, List.replicate m 0, ao, cap, Lib.hid (by omega), Nat.le_refl _, rfl, rfl, rfl, Lib.hid (hr.alloc _), Lib.hid (fun a' h => ⟨a', h, rfl⟩), ?_, ?_, Lib.hid (below_alloc w _), ?_, Lib.hid (fun _ => by rw [hla]; exact startN_room a), ?_⟩
  · have h := World.ownsRow_lit (w := w) (base := 0) (e := 5) (size := 1) ms m (Nat.zero_le _) (by unfold maxLen; omega) (by rw [hms]; simp [cells8])
    rw [hms, List.toList_toArray] at h
    show World.ownsRow _ _ _ _ _ _ _
    rw [List.length_replicate, hms]
    exact h
  · intro b hb
    simp [Value.ownBlock] at hb
    omega
  · show _ = _
    rw [if_pos (.inl rfl), hla, List.drop_zero]
    unfold writtenB
    rw [hm]
  · show _ ≤ _
    unfold writtenB
    rw [List.length_append, List.length_replicate, List.length_replicate]; omega

theorem WrRel.next (r : List Nat) (a : Nat) (ao : Option Addr) (cap : Nat) (w wr w' : World) (k m q : Nat) (bg c : Bool) (v v' : Value) (xs : List Nat) (ao' : Option Addr) (cap' : Nat) (hr : Row8 w ao r.length cap r)
    (hkm : k + m = r.length) (hrow : Row8 wr ao' m cap' (r.drop k)) (hblk : ∀ a', ao' = some a' → ∃ a, ao = some a ∧ a'.block = a.block) (hnew : ∀ b, v.ownBlock = some b → w.heap.size ≤ b) (hbel : Below w.heap.size w wr)
    (hres : (if bg = true ∨ 0 < m then xs ++ partsB (a + xs.length) bg (r.drop k) else xs) = writtenB r a) (hgo : bg = true ∨ 0 < m) (hroom : 7 < roomN (a + xs.length))
    (hq : q = min m (roomN (a + xs.length) - 7)) (hc : ((q : Int) == (m : Int)) = c)
    (hg : GrewB v (xs ++ partB (kindN bg c) ((r.drop k).take q)) wr (.returned v') w') : WrRel r a ao w (.slice (cutA ao' cap' q) (m - q) (cap' - q)) v' (.bool false) w' := by
  obtain ⟨v'', he, h1, h2, h3⟩ := hg
  obtain rfl : v' = v'' := by simpa using he
  have hw := hbel.size
  have hsz := h2.size
  have hlrow := hrow.len
  have hnew' : ∀ b, v'.ownBlock = some b → w.heap.size ≤ b := by
    intro b hb
    rcases h3 with h3 | ⟨b', h3, h4⟩
    · exact hnew b (h3 ▸ hb)
    · rw [h3] at hb; cases hb; omega
  have hbel' : Below w.heap.size w w' := by
    refine ⟨h2.os.trans hbel.os, h2.tape.trans hbel.tape, h2.output.trans hbel.output, by omega, fun i hi => ?_⟩
    exact (h2.block i (by omega) (fun e => by have := hnew i e.symm; omega)).trans (hbel.block i hi)
  have hqm : q ≤ m := by omega
  have hrow' : Row8 w' (cutA ao' cap' q) (m - q) (cap' - q) (r.drop (k + q)) := by
    have h := hrow.cut q m hqm (Nat.le_refl _)
    rw [List.drop_drop, List.take_of_length_le (by rw [List.length_drop]; omega)] at h
    refine h.grown h2 (fun a' ha' hn => ?_)
    intro e
    obtain ⟨a1, e1, e2⟩ := cutA_block a' ha'
    obtain ⟨a2, e3, e4⟩ := hblk a1 e1
    have := hr.lt a2 e3 (by omega)
    have := hnew _ e
    omega
  have hxl : (xs ++ partB (kindN bg c) ((r.drop k).take q)).length = xs.length + (7 + q) := by
    rw [List.length_append, partB_length, List.length_take, List.length_drop]; omega
  rw [if_pos hgo] at hres
  refine ⟨k + q, m - q, false, v', _, _, _, Lib.hid (by omega), by omega, rfl, rfl, rfl, Lib.hid hrow', Lib.hid ?_, Lib.hid h1, Lib.hid hnew', Lib.hid hbel', ?_, ?_, ?_⟩
  · intro a' ha'
    obtain ⟨a1, e1, e2⟩ := cutA_block a' ha'
    obtain ⟨a2, e3, e4⟩ := hblk a1 e1
    exact ⟨a2, e3, e2.trans e4⟩
  all_goals
    by_cases hl : m ≤ roomN (a + xs.length) - 7
    · obtain rfl : q = m := by omega
      obtain rfl : c = true := by rw [← hc]; simp
      have hp : partsB (a + xs.length) bg (r.drop k) = partB (kindN bg true) (r.drop k) := partsB_last bg (by rw [List.length_drop]; omega)
      have ht : (r.drop k).take q = r.drop k := List.take_of_length_le (by rw [List.length_drop]; omega)
      rw [hp] at hres
      show _
      first
        | (show (if _ then _ else _) = _; rw [if_neg (by simp), ht]; exact hres)
        | (intro h; simp at h)
        | (show _ ≤ _; rw [ht, hres]; exact Nat.le_refl _)
    · have hqe : q = roomN (a + xs.length) - 7 := by omega
      obtain rfl : c = false := by rw [← hc, beq_eq_false_iff_ne]; omega
      have hp := partsB_more (r := r.drop k) bg (by rw [List.length_drop]; omega) hroom
      rw [← hqe, List.drop_drop] at hp
      have hpos : a + (xs ++ partB (kindN bg false) ((r.drop k).take q)).length = a + xs.length + roomN (a + xs.length) := by rw [hxl]; omega
      rw [hp] at hres
      first
        | (show (if _ then _ else _) = _; rw [if_pos (.inr (by omega)), hpos, List.append_assoc]; exact hres)
        | (intro _; rw [hpos, roomN_next]; omega)
        | (show _ ≤ _; rw [← hres, ← List.append_assoc]; simp only [List.length_append]; omega)

set_option maxRecDepth 100000 in
set_option maxHeartbeats 4000000 in
theorem written_n (r : List Nat) (a : Nat) (ao : Option Addr) (n cap : Nat) (w : World) (hr : Row8 w ao n cap r) (ha : a ≤ 1073741824) (hn : n ≤ 65536) :
    Calls Try.prog 29 #[.slice ao n cap, .int .i64 a] w fun e w' => ∃ v, e = .returned v ∧ w'.ownsRow 0 5 1 v (writtenB r a).length (cells8 (writtenB r a)) ∧ (∀ b, v.ownBlock = some b → w.heap.size ≤ b) ∧ Below w.heap.size w w' := by
  obtain rfl := hr.len
  have hsg := startN_ge a
  have HR := Lib.hid hr
  have HW := Lib.hid (writtenB_len r a)
  obtain ⟨i0, hi, hz0, hz1, hz2⟩ := info_parts Try.info8
  obtain ⟨m, hm⟩ : ∃ m, m = startN a - a := ⟨_, rfl⟩
  obtain ⟨ms, hms⟩ : ∃ ms, ms = (cells8 (List.replicate m 0)).toArray := ⟨_, rfl⟩
  have hmc : ∀ z : Array Value, z = #[.int .u8 0] → madeCells z (m * 1) = ms := by
    intro z hz
    rw [hms, hz, Nat.mul_one]
    apply Array.ext
    · simp [madeCells, cells8]
    · intro i h1 h2
      simp [madeCells, cells8, Nat.mod_one]
  have hmake : ∀ W : World, (Instr.makeSlice 22 (.int .i64 ((startN a : Int) - (a : Int))) (.int .i64 ((startN a : Int) - (a : Int)))).run Try.prog W = .ok (.slice (some ⟨W.heap.size, 0, none⟩) m m) (W.alloc (.cells ms 5)) := fun W => by
    have := run_make (P := Try.prog) W 22 5 i0 (.int .u8 0) Try.underlying22 hi hz0 .i64 .i64 (m : Int) (m : Int) (by omega) (by omega) (by rw [hz2]; omega) (by omega)
    rw [Int.toNat_natCast, hz1, hmc (Value.int .u8 0).cells rfl] at this
    rw [show ((startN a : Int) - (a : Int)) = (m : Int) by omega]
    exact this
  have HM := Lib.hid hm
  have HMS := Lib.hid hms
  clear hmc hms hm hr
  go_enter Try.func29, Try.ntmps29
  go_wp2_with fail
  refine (start_n a (by omega) w).mono ?_
  rintro e w' ⟨rfl, rfl⟩
  go_wp2_with fail
  go_loopw [0, 5, 6] (fun x b f wr => WrRel r a ao w x b f wr) (fun x _ f _ => lenV x + flagV f)
  case atStart => exact WrRel.start r a m ao cap w HR.out HM.out ms HMS.out
  case round =>
    obtain ⟨k, m', bg, v, xs, ao', cap', hkm, hml, rfl, rfl, rfl, hrow, hblk, hown, hnew, hbel, hres, hroom, hlen⟩ := hrel
    by_cases hgo : bg = true ∨ 0 < m'
    · have HGO := Lib.hid hgo
      have hrm := hroom.out hgo
      have hrp := roomN_pos (a + xs.length)
      have hxl := hlen.out
      have hcap := hrow.out.room
      have hcap2 := hrow.out.most
      have hwl := HW.out.1
      have hxb : xs.length ≤ 100000 := by omega
      obtain ⟨av, cv, rfl⟩ := own_slice hown.out
      obtain ⟨q, hq⟩ : ∃ q, q = min m' (roomN (a + xs.length) - 7) := ⟨_, rfl⟩
      have hqi : min (m' : Int) (((roomN (a + xs.length) : Nat) : Int) - 7) = (q : Int) := by omega
      have hqm : q ≤ m' := by omega
      have hqr : q ≤ 121 := by omega
      obtain ⟨c, hc⟩ : ∃ c : Bool, c = ((q : Int) == (m' : Int)) := ⟨_, rfl⟩
      have hsep : ∀ a', ao' = some a' → 0 < q → (Value.slice av xs.length cv).ownBlock ≠ some a'.block := by
        intro a' ha' hn' e
        obtain ⟨a2, e3, e4⟩ := hblk.out a' ha'
        have := HR.out.lt a2 e3 (by have := hkm.out; omega)
        have := hnew.out _ e
        omega
      have HSEP := Lib.hid hsep
      clear hsep
      obtain ⟨R, hR⟩ : ∃ R, roomN (a + xs.length) = R := ⟨_, rfl⟩
      rw [hR] at hqi hrm hrp
      have HRR := Lib.hid hR
      have HQ := Lib.hid hqi
      have HC := Lib.hid hc.symm
      have HQD := Lib.hid hq
      clear hroom hlen hwl hqi hq hc hgo hR
      have HQMR : Hid (q = 0 → m' = 0) := fun h => by have := HQD.out; have := HRR.out; omega
      cases bg
      · have hpos : 0 < m' := by rcases HGO.out with h | h; simp at h; exact h
        have hqp : 0 < q := by
          rcases Nat.eq_zero_or_pos q with h | h
          · have := HQMR.out h; omega
          · exact h
        go_wp2_with fail
        rw [show ((a : Int) + (xs.length : Int)) = ((a + xs.length : Nat) : Int) by omega]
        refine (room_n _ _).mono ?_
        rintro e w' ⟨rfl, rfl⟩
        rw [HRR.out]
        go_wp2_with fail
        rw [HQ.out]
        have hq' := HC.out
        have hqc : (q : Int) ≤ (cap' : Int) := by omega
        have hq0 : (0 : Int) ≤ (q : Int) := by omega
        go_region_held3 (fun _ => True) (trivial) ((first
          | (go_at_call 45; refine (kindOf_n false c _).mono ?_; rintro e w' ⟨rfl, rfl⟩)
          | (go_at_call 46; refine (behind_n (kindN false c) (kindN_lt _ _) ao' q cap' ((r.drop k).take q) (.slice av xs.length cv) xs _ (hrow.out.upto q hqm).drew (ownsRow_same hown.out (fun _ _ => rfl)) (by omega) (by omega) HSEP.out).mono ?_; rintro e w2 ⟨v2, rfl, g2⟩; have G2 := Lib.hid g2; clear g2)))
        all_goals
          have hcut := fun W => run_cut_from W ao' m' cap' q hqm
          clear hq'
          go_wp2
          go_roundw
          case rel => exact WrRel.next r a ao cap w wr w2 k m' q false c _ v2 xs ao' cap' HR.out hkm.out hrow.out hblk.out hnew.out hbel.out hres.out (.inr hpos) (by rw [HRR.out]; exact hrm) HQD.out HC.out ⟨v2, rfl, G2.out.1, ⟨G2.out.2.1.os, G2.out.2.1.tape, G2.out.2.1.output, G2.out.2.1.size, G2.out.2.1.block⟩, G2.out.2.2⟩
          case measure => simp [lenV, flagV]; omega
      · go_wp2_with fail
        rw [show ((a : Int) + (xs.length : Int)) = ((a + xs.length : Nat) : Int) by omega]
        refine (room_n _ _).mono ?_
        rintro e w' ⟨rfl, rfl⟩
        rw [HRR.out]
        go_wp2_with fail
        rw [HQ.out]
        have hq' := HC.out
        have hqc : (q : Int) ≤ (cap' : Int) := by omega
        have hq0 : (0 : Int) ≤ (q : Int) := by omega
        go_region_held3 (fun _ => True) (trivial) ((first
          | (go_at_call 45; refine (kindOf_n true c _).mono ?_; rintro e w' ⟨rfl, rfl⟩)
          | (go_at_call 46; refine (behind_n (kindN true c) (kindN_lt _ _) ao' q cap' ((r.drop k).take q) (.slice av xs.length cv) xs _ (hrow.out.upto q hqm).drew (ownsRow_same hown.out (fun _ _ => rfl)) (by omega) (by omega) HSEP.out).mono ?_; rintro e w2 ⟨v2, rfl, g2⟩; have G2 := Lib.hid g2; clear g2)))
        all_goals
          have hcut := fun W => run_cut_from W ao' m' cap' q hqm
          clear hq'
          go_wp2
          go_roundw
          case rel => exact WrRel.next r a ao cap w wr w2 k m' q true c _ v2 xs ao' cap' HR.out hkm.out hrow.out hblk.out hnew.out hbel.out hres.out (.inl rfl) (by rw [HRR.out]; exact hrm) HQD.out HC.out ⟨v2, rfl, G2.out.1, ⟨G2.out.2.1.os, G2.out.2.1.tape, G2.out.2.1.output, G2.out.2.1.size, G2.out.2.1.block⟩, G2.out.2.2⟩
          case measure => simp [lenV, flagV]; omega
    · obtain rfl : m' = 0 := by omega
      have hbg : bg = false := by cases bg; rfl; simp at hgo
      subst hbg
      obtain ⟨av, cv, rfl⟩ := own_slice hown.out
      clear hgo hroom
      go_wp2
      go_ret
      have hx : xs = writtenB r a := by have := hres.out; rw [if_neg (by simp)] at this; exact this
      refine ⟨_, rfl, ?_, hnew.out, hbel.out⟩
      rw [← hx]; exact hown.out
end Go.Proofs.Ytkmanpmaflpgoaa
