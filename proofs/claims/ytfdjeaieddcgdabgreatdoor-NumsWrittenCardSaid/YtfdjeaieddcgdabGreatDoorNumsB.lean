/-
  WHAT IS PROVED: contracts of package nums: collect, Put, PutSigned, PutText: bytes in new memory.
-/
import Derived.Test.YtfdjeaieddcgdabGreatDoorNumsA
namespace Go.Proofs.YtfdjeaieddcgdabGreatDoor
open Go.RowKit

/-- one of the lists that are put one behind the other -/
structure Part where
  ao : Option Addr
  n : Nat
  cap : Nat
  l : List Nat

def Part.val (p : Part) : Value := .slice p.ao p.n p.cap
def total (ps : List Part) : Nat := (ps.map (·.n)).sum
def flat (ps : List Part) : List Nat := (ps.map (·.l)).flatten

theorem total_append (ps qs : List Part) : total (ps ++ qs) = total ps + total qs := by simp [total]
theorem flat_append (ps qs : List Part) : flat (ps ++ qs) = flat ps ++ flat qs := by simp [flat]
theorem total_take (ps : List Part) (k : Nat) (p : Part) (h : ps[k]? = some p) : total (ps.take (k + 1)) = total (ps.take k) + p.n := by
  rw [List.take_add_one, h, total_append]; simp [total]
theorem flat_take (ps : List Part) (k : Nat) (p : Part) (h : ps[k]? = some p) : flat (ps.take (k + 1)) = flat (ps.take k) ++ p.l := by
  rw [List.take_add_one, h, flat_append]; simp [flat]
theorem total_le (ps : List Part) (k : Nat) : total (ps.take k) ≤ total ps := by
  have h : total (ps.take k ++ ps.drop k) = total ps := by rw [List.take_append_drop]
  rw [total_append] at h; omega
theorem flat_length (ps : List Part) (h : ∀ p ∈ ps, p.l.length = p.n) : (flat ps).length = total ps := by
  induction ps with
  | nil => rfl
  | cons p r ih =>
    have h1 := h p (by simp)
    have h2 := ih (fun q hq => h q (by simp [hq]))
    simp only [flat, total, List.map_cons, List.flatten_cons, List.length_append, List.sum_cons] at h2 ⊢
    omega

/-- the parts stand in a block, and each reads as its bytes -/
structure Parts (w : World) (b : Nat) (ps : List Part) : Prop where
  cell : ∀ (j : Nat) p, ps[j]? = some p → w.cell? ⟨b, j, none⟩ = some p.val
  row : ∀ p ∈ ps, Row8 w p.ao p.n p.cap p.l

theorem Parts.kept {w w' : World} {b : Nat} {ps : List Part} (h : Parts w b ps) (hb : Below w.heap.size w w') : Parts w' b ps :=
  ⟨fun j p hp => (hb.cell (p := ⟨b, j, none⟩) (World.block_lt_of_cell? w _ (h.cell j p hp))).trans (h.cell j p hp), fun p hp => (h.row p hp).kept hb⟩

/-- the loop's relation of collect: so many parts are gathered -/
def CoRel (ps : List Part) (w : World) (k : Nat) (wr : World) : Prop :=
  wr.ownsRow w.heap.size 5 1 (.slice (some ⟨w.heap.size, 0, none⟩) (total (ps.take k)) (total ps)) (total (ps.take k)) (cells8 (flat (ps.take k))) ∧ Below w.heap.size w wr ∧ w.heap.size < wr.heap.size

set_option maxHeartbeats 1000000 in
theorem collect_any (b cap : Nat) (ps : List Part) (w : World) (hps : Parts w b ps) (hlen : ps.length ≤ 1000) (htot : total ps ≤ 1099511627776) :
    Calls Tryz.prog 181 #[.slice (some ⟨b, 0, none⟩) ps.length cap] w fun e w' =>
      ∃ v, e = .returned v ∧ w'.ownsRow w.heap.size 5 1 v (flat ps).length (cells8 (flat ps)) ∧ Below w.heap.size w w' := by
  obtain ⟨i0, hi, hz0, hz1, hz2⟩ := info_parts Tryz.info8
  have HP := Lib.hid hps
  clear hps
  go_enter Tryz.func181, Tryz.ntmps181
  go_wp2
  go_loop [3, 11] (fun t i => ∃ k : Nat, k ≤ ps.length ∧ i = .int .i64 k ∧ t = .int .i64 (total (ps.take k) : Nat)) (fun _ i => ps.length - (intOf i).toNat)
  case atStart => exact ⟨0, Nat.zero_le _, rfl, by simp [total]⟩
  case round =>
    obtain ⟨k, hk, rfl, rfl⟩ := hrel
    by_cases hlt : k < ps.length
    · obtain ⟨p, hp⟩ : ∃ p, ps[k]? = some p := ⟨ps[k], by simp [hlt]⟩
      have hc := HP.out.cell k p hp
      have ht := total_take ps k p hp
      have hle := total_le ps (k + 1)
      have hle' : total (ps.take k) + p.n ≤ 1099511627776 := by omega
      have HT := Lib.hid ht
      have HPk := Lib.hid hp
      unfold Part.val at hc
      clear ht hle hp
      go_wp2
      go_round
      case rel => exact ⟨k + 1, by omega, by go_num, by rw [HT.out]; go_num⟩
      case measure => simp [intOf]; omega
    · obtain rfl : k = ps.length := by omega
      have htk : total (ps.take ps.length) = total ps := by rw [List.take_length]
      rw [htk]
      clear htk
      go_wp2_with (at_make; refine wpList_make_own _ rfl _ _ 29 rfl w.heap.size 5 i0 (.int .u8 0) 1 Tryz.underlying29 hi hz0 hz1 _ _ _ (total ps) rfl rfl rfl (by rw [hz2]; omega) (by unfold maxLen; omega) (Nat.le_refl _) ?_)
      intro w1 hown1 hg1
      have hlt1 := (hown1.lt w.heap.size rfl).2
      go_wp2
      go_loopw [6, 24] (fun v i wr => ∃ k : Nat, k ≤ ps.length ∧ i = .int .i64 k ∧ v = .slice (some ⟨w.heap.size, 0, none⟩) (total (ps.take k)) (total ps) ∧ CoRel ps w k wr) (fun _ i _ => ps.length - (intOf i).toNat)
      case atStart => exact ⟨0, Nat.zero_le _, rfl, by simp [total], by simpa [total, flat, cells8] using hown1, ⟨hg1.os, hg1.tape, hg1.output, hg1.size, fun k hk => hg1.block k hk (by simp)⟩, hlt1⟩
      case round =>
        obtain ⟨k, hk, rfl, rfl, hown, hbel, hsz⟩ := hrel
        by_cases hlt : k < ps.length
        · obtain ⟨p, hp⟩ : ∃ p, ps[k]? = some p := ⟨ps[k], by simp [hlt]⟩
          have HPr := HP.out.kept hbel
          have hc := HPr.cell k p hp
          have hr := Lib.hid (HPr.row p (List.mem_of_getElem? hp))
          have ht := Lib.hid (total_take ps k p hp)
          have hfl := Lib.hid (flat_take ps k p hp)
          have hle := total_le ps (k + 1)
          have hle' : total (ps.take k) + p.n ≤ total ps := by rw [ht.out] at hle; exact hle
          unfold Part.val at hc
          clear hp HPr hle
          obtain ⟨⟨pa, pn, pc, pl⟩, rfl⟩ : ∃ q : Part, q = p := ⟨p, rfl⟩
          simp only at hc hle'
          go_wp2_with (with_reducible refine wpList_append_fits_any _ rfl (.tmp 28) (.tmp 29) 29 rfl w.heap.size 5 i0 1 Tryz.underlying29 hi hz1 w.heap.size (total (ps.take k)) (total ps) _ rfl hown pa pn pc (cells8 pl) rfl ?c1 ?c2 ?c3 (cells8_one _) hle' ?_)
          case c1 => have := hr.out.len; simp [cells8_length]; exact this
          case c2 => intro h; have h1 : pc = 0 := hr.out.nil h; have h2 : pn ≤ pc := hr.out.room; omega
          case c3 =>
            intro ad had j u hu
            have hj : j < pl.length := by have := (List.getElem?_eq_some_iff.1 hu).1; simpa [cells8] using this
            rw [cells8_getElem? _ _ hj] at hu
            have := hr.out.cell ad had j (by have h1 : pl.length = pn := hr.out.len; show j < pn; omega)
            rw [this]; exact hu
          intro w2 hown2 hg2
          have hR : CoRel ps w (k + 1) w2 := by
            refine ⟨?_, hbel.grown hg2 (by omega) (by intro k hk; cases hk; omega), Nat.lt_of_lt_of_le hsz hg2.size⟩
            rw [ht.out, hfl.out, ← cells8_append]
            exact hown2
          go_wp2
          go_roundw
          case rel => exact ⟨k + 1, by omega, by go_num, by rw [ht.out], hR⟩
          case measure => simp [intOf]; omega
        · obtain rfl : k = ps.length := by omega
          rw [List.take_length] at hown
          have HL := Lib.hid (flat_length ps (fun p hp => (HP.out.row p hp).len))
          have htk : total (ps.take ps.length) = total ps := by rw [List.take_length]
          rw [htk]
          clear htk
          go_wp2
          go_ret
          exact ⟨_, rfl, by rw [HL.out]; exact hown, hbel⟩

/-- a new block of slices, as buildSlice lays it -/
theorem parts2 (w : World) (p q : Part) (hp : Row8 w p.ao p.n p.cap p.l) (hq : Row8 w q.ao q.n q.cap q.l) :
    Parts (w.alloc (.cells #[p.val, q.val] 29)) w.heap.size [p, q] := by
  refine ⟨fun j x hx => ?_, fun x hx => ?_⟩
  · match j, hx with
    | 0, hx => simp at hx; subst hx; rw [World.cell?_alloc_at _ _ _ _ rfl]; rfl
    | 1, hx => simp at hx; subst hx; rw [World.cell?_alloc_at _ _ _ _ rfl]; rfl
    | j + 2, hx => simp at hx
  · simp at hx
    rcases hx with rfl | rfl
    · exact hp.alloc _
    · exact hq.alloc _

theorem parts3 (w : World) (p q r : Part) (hp : Row8 w p.ao p.n p.cap p.l) (hq : Row8 w q.ao q.n q.cap q.l) (hr : Row8 w r.ao r.n r.cap r.l) :
    Parts (w.alloc (.cells #[p.val, q.val, r.val] 29)) w.heap.size [p, q, r] := by
  refine ⟨fun j x hx => ?_, fun x hx => ?_⟩
  · match j, hx with
    | 0, hx => simp at hx; subst hx; rw [World.cell?_alloc_at _ _ _ _ rfl]; rfl
    | 1, hx => simp at hx; subst hx; rw [World.cell?_alloc_at _ _ _ _ rfl]; rfl
    | 2, hx => simp at hx; subst hx; rw [World.cell?_alloc_at _ _ _ _ rfl]; rfl
    | j + 3, hx => simp at hx
  · simp at hx
    rcases hx with rfl | rfl | rfl
    · exact hp.alloc _
    · exact hq.alloc _
    · exact hr.alloc _

/-- what is handed back: bytes in new memory -/
def New8 (w : World) (l : List Nat) (e : Ending) (w' : World) : Prop :=
  ∃ a n cap, e = .returned (.slice a n cap) ∧ Row8 w' a n cap l ∧ (∀ x, a = some x → w.heap.size ≤ x.block ∧ x.off = 0 ∧ x.spot = none) ∧ Below w.heap.size w w'

theorem new8_of {w w' w0 : World} {e : Ending} {v : Value} {l : List Nat} (he : e = .returned v) (hown : w'.ownsRow w0.heap.size 5 1 v l.length (cells8 l)) (hb : Below w.heap.size w w') (h0 : w.heap.size ≤ w0.heap.size) (hl : ∀ x ∈ l, x < 256) : New8 w l e w' := by
  obtain ⟨ao, cap, rfl, hr, hn⟩ := Row8.of_owns hown hl
  exact ⟨ao, _, cap, he, hr, fun x hx => ⟨Nat.le_trans h0 (hn x hx).1, (hn x hx).2⟩, hb⟩

set_option maxHeartbeats 1000000 in
theorem put_any (ao : Option Addr) (n cap : Nat) (l : List Nat) (m : Nat) (hm : m < 18446744073709551616) (w : World) (hr : Row8 w ao n cap l) (hn : n ≤ 4294967296) :
    Calls Tryz.prog 53 #[.slice ao n cap, .int .u64 (m : Int)] w (New8 w (l ++ vb m)) := by
  have HR := Lib.hid hr
  clear hr
  go_enter Tryz.func53, Tryz.ntmps53
  go_wp2_with fail
  refine (bytesOf_any m hm w).mono ?_
  rintro e w1 ⟨v, rfl, hown, hb⟩
  obtain ⟨a1, c1, rfl, hr1, ha1⟩ := Row8.of_owns hown (vb_byte m)
  have HR1 := Lib.hid hr1
  have hl10 := vb_len64 hm
  clear hr1 hown ha1
  go_wp2_with fail
  have hP := parts2 w1 ⟨ao, n, cap, l⟩ ⟨a1, (vb m).length, c1, vb m⟩ (HR.out.kept hb) HR1.out
  refine (collect_any w1.heap.size 2 [⟨ao, n, cap, l⟩, ⟨a1, (vb m).length, c1, vb m⟩] _ hP (by simp) (by simp [total]; omega)).mono ?_
  rintro e w2 ⟨v, rfl, hown, hb2⟩
  go_wp2
  go_ret
  have hf : flat [⟨ao, n, cap, l⟩, ⟨a1, (vb m).length, c1, vb m⟩] = l ++ vb m := by simp [flat]
  rw [hf] at hown
  refine new8_of rfl hown ?_ (by have := hb.size; simp; omega) ?_
  · exact (hb.alloc hb.size _).trans (hb2.mono (by have := hb.size; simp; omega))
  · intro x hx
    rcases List.mem_append.1 hx with h | h
    · exact HR.out.byte x h
    · exact vb_byte m x h

end Go.Proofs.YtfdjeaieddcgdabGreatDoor
