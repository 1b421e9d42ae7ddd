/-
  WHAT IS PROVED: the walk of FilesCut.
-/
import Derived.Test.YtdeggklfjdgfjaaLAnew
import Derived.Test.YtdeggklfjdgfjaaTSize
namespace Go.Proofs.Ytdeggklfjdgfjaa
open Go.RowKit Go.Lib

/-- texts, one behind the other -/
def catS (ss : List ByteArray) : ByteArray := ss.foldl (· ++ ·) ⟨#[]⟩
theorem catS_next (ss : List ByteArray) (k : Nat) (s : ByteArray) (h : ss[k]? = some s) : catS (ss.take (k + 1)) = catS (ss.take k) ++ s := by
  unfold catS
  rw [List.take_add_one, h, List.foldl_append]; rfl
theorem strN_append (a b : ByteArray) : strN (a ++ b) = strN a ++ strN b := by simp [strN]
theorem catS_size (ss : List ByteArray) (k : Nat) (hk : k ≤ ss.length) : (catS (ss.take k)).size = letters (ss.take k) := by
  induction k with
  | zero => rfl
  | succ k ih =>
    have hs : ss[k]? = some ss[k] := by simp
    rw [catS_next ss k _ hs, letters_next ss k _ hs, ByteArray.size_append, ih (by omega)]

def cutM (s : ByteArray) : DiskM := ⟨20000, [(⟨#[102]⟩, 0)], [], [⟨strN s, 0⟩]⟩
theorem cut_a : (newM 20000).createE ⟨#[102]⟩ = 0 ∧ (newM 20000).createM ⟨#[102]⟩ = cutM ⟨#[]⟩ := ⟨by kernel_rfl, by kernel_rfl⟩
theorem cut_b (s t : ByteArray) (h : s.size + t.size ≤ 20000) : (cutM s).appendE ⟨#[102]⟩ (strN t).length = 0 ∧ (cutM s).appendM ⟨#[102]⟩ (strN t) = cutM (s ++ t) := by
  have h1 := strN_length s
  have h2 := strN_length t
  have := append_eq (cutM s) ⟨#[102]⟩ (strN t) 0 ⟨strN s, 0⟩ (by kernel_rfl) (by kernel_rfl) rfl (by show (strN t).length ≤ 20000 - ((strN s).length + 0); omega) (by show (strN s).length + (strN t).length ≤ _; omega)
  refine ⟨this.1, this.2.trans ?_⟩
  unfold cutM
  rw [strN_append]; rfl
theorem cut_r (s : ByteArray) (a n : Nat) (h : a + n ≤ s.size) : (cutM s).readE ⟨#[102]⟩ a n = 0 ∧ (cutM s).readB ⟨#[102]⟩ a n = ((strN s).drop a).take n := by
  have h1 := strN_length s
  have hE : (cutM s).readE ⟨#[102]⟩ a n = 0 := by
    unfold DiskM.readE
    rw [if_pos ⟨by kernel_rfl, by omega, by omega⟩, if_pos (by kernel_rfl), if_neg]
    show ¬ (((strN s).length : Int) < _)
    omega
  refine ⟨hE, ?_⟩
  unfold DiskM.readB
  rw [if_pos hE, Int.toNat_natCast, Int.toNat_natCast]; rfl
theorem cut_x (s : ByteArray) (a n : Nat) (h : s.size < a + n) : (cutM s).readE ⟨#[102]⟩ a n = 5 ∧ (cutM s).readB ⟨#[102]⟩ a n = [] := by
  have h1 := strN_length s
  have hE : (cutM s).readE ⟨#[102]⟩ a n = 5 := by
    unfold DiskM.readE
    rw [if_pos ⟨by kernel_rfl, by omega, by omega⟩, if_pos (by kernel_rfl), if_pos]
    show (((strN s).length : Int) < _)
    omega
  refine ⟨hE, ?_⟩
  unfold DiskM.readB
  rw [hE]; rfl

theorem strB_extract (s : ByteArray) (a n : Nat) : strB (((strN s).drop a).take n) = s.extract a (a + n) := by
  have h : ((strN s).drop a).take n = strN (s.extract a (a + n)) := by
    unfold strN
    rw [← List.map_drop, ← List.map_take]
    congr 1
    simp [List.take_drop]
  rw [h, strB_of]
theorem strB_size (l : List Nat) : (strB l).size = l.length := by unfold strB; simp [ByteArray.size]
theorem strB_append (l m : List Nat) : strB l ++ strB m = strB (l ++ m) := by
  unfold strB
  apply ByteArray.ext
  simp
theorem cut_join (l : List Nat) (a n k : Nat) (h : k ≤ n) : (l.drop a).take k ++ (l.drop (a + k)).take (n - k) = (l.drop a).take n := by
  rw [← List.drop_drop]
  rw [show n = k + (n - k) by omega, List.take_add]
  congr 2; omega

theorem cut_len (s : ByteArray) (a n : Nat) (h : a + n ≤ s.size) : (((strN s).drop a).take n).length = n := by
  rw [List.length_take, List.length_drop, strN_length]; omega

set_option maxRecDepth 100000 in
set_option maxHeartbeats 8000000 in
theorem walkN_FilesCut (ao : Option Addr) (n cap : Nat) (ss : List ByteArray) (w : World) (hr : RowS w ao n cap ss) (c0 c1 c2 : Nat) (h0 : c0 < 65536) (h1 : c1 < 65536) (h2 : c2 < 65536) :
    Calls Try.prog 9 #[.slice ao n cap, .agg #[.int .u16 (c0 : Int), .int .u16 (c1 : Int), .int .u16 (c2 : Int)]] w fun e w' => e = .returned (.bool true) ∧ Below w.heap.size w w' := by
  have hlen := Lib.hid hr.len
  have hroom := hr.room
  have hmost := hr.most
  obtain ⟨W, hW⟩ : ∃ W, W = w.alloc (.cells #[.int .u16 (c0 : Int), .int .u16 (c1 : Int), .int .u16 (c2 : Int)] 64) := ⟨_, rfl⟩
  have hz : ∀ wk, Below W.heap.size W wk → wk.cell? ⟨w.heap.size, 0, none⟩ = some (.int .u16 (c0 : Int)) ∧ wk.cell? ⟨w.heap.size, 1, none⟩ = some (.int .u16 (c1 : Int)) ∧ wk.cell? ⟨w.heap.size, 2, none⟩ = some (.int .u16 (c2 : Int)) := by
    intro wk hb
    have hh : wk.heap[w.heap.size]? = some (.cells #[.int .u16 (c0 : Int), .int .u16 (c1 : Int), .int .u16 (c2 : Int)] 64 (0, 0)) := by
      rw [hb.block w.heap.size (by rw [hW]; simp), hW]; exact heap_alloc_new w _
    exact ⟨cell_of_block hh 0, cell_of_block hh 1, cell_of_block hh 2⟩
  have HZ := Lib.hid hz
  have hrW : RowS W ao n cap ss := by rw [hW]; exact hr.kept (below_alloc w _)
  have HR := Lib.hid hrW
  have hend : ∀ wk, Below W.heap.size W wk → Below w.heap.size w wk := fun wk hb => by rw [hW] at hb; exact below_alloc_trans hb
  have HEND := Lib.hid hend
  have hcv := fun (w : World) (s : ByteArray) => run_bytes_of_string (P := Try.prog) w 9 22 5 s Try.underlying9 Try.underlying22 Try.underlying5
  have HCV := Lib.hid hcv
  clear hz hend hcv hr hrW
  by_cases h30 : 30 < n
  · go_enter Try.func9, Try.ntmps9
    go_wp2_with fail
    rw [← hW]
    refine (alive_yes W).mono ?_
    rintro e w1 ⟨rfl, b1⟩
    have B1 := Lib.hid b1
    clear b1
    go_wp2_with fail
    refine (alive_yes w1).mono ?_
    rintro e w2 ⟨rfl, b2⟩
    have B2 := Lib.hid (below_next B1.out b2)
    clear b2
    go_wp2
    go_ret
    exact ⟨rfl, HEND.out _ B2.out⟩
  · by_cases hbig : 20000 < n + letters ss
    · go_enter Try.func9, Try.ntmps9
      go_wp2_with fail
      rw [← hW]
      refine (alive_yes W).mono ?_
      rintro e w1 ⟨rfl, b1⟩
      have B1 := Lib.hid b1
      clear b1
      go_wp2_with fail
      refine (textsSize_any ao n cap ss w1 (HR.out.kept B1.out) (by omega)).mono ?_
      rintro e w' ⟨v, rfl, hv, rfl⟩
      have hv2 : 20000 < v := by omega
      clear hv
      go_wp2_with fail
      refine (alive_yes w1).mono ?_
      rintro e w2 ⟨rfl, b2⟩
      have B2 := Lib.hid (below_next B1.out b2)
      clear b2
      go_wp2
      go_ret
      exact ⟨rfl, HEND.out _ B2.out⟩
    · go_enter Try.func9, Try.ntmps9
      go_wp2_with fail
      rw [← hW]
      refine (alive_yes W).mono ?_
      rintro e w1 ⟨rfl, b1⟩
      have B1 := Lib.hid b1
      clear b1 hW
      go_wp2_with fail
      refine (textsSize_any ao n cap ss w1 (HR.out.kept B1.out) (by omega)).mono ?_
      rintro e w' ⟨v, rfl, hv, rfl⟩
      have hv2 : v ≤ 20000 := by omega
      clear hv
      go_wp2_with fail
      refine (new_h (M := newM 20000) 20000 W w1 B1.out (by omega) (by omega) rfl).mono ?_
      rintro e w2 ⟨d, rfl, h2', _⟩
      have H2 := Lib.hid h2'
      clear h2'
      go_wp2_with fail
      refine (create_h H2.out ⟨#[102]⟩ (by decide) (k := 0) (by rw [cut_a.1]; rfl) cut_a.2).mono ?_
      rintro e w3 ⟨rfl, h3⟩
      have H3 := Lib.hid h3
      clear h3
      go_wp2_with fail
      go_loopw [7, 8] (fun s i wr => ∃ k : Nat, k ≤ n ∧ i = .int .i64 k ∧ s = .string (catS (ss.take k)) ∧ Hid (Has W wr d (cutM (catS (ss.take k))))) (fun _ i _ => n - (RowKit.intOf i).toNat)
      case atStart => exact ⟨0, by omega, rfl, rfl, H3⟩
      case round =>
        obtain ⟨k, hk, rfl, rfl, HK⟩ := hrel
        have hszk := catS_size ss k (by rw [hlen.out]; exact hk)
        have hlek := letters_le ss k
        have hs20 : (catS (ss.take k)).size ≤ 20000 := by omega
        by_cases hlt : k < n
        · obtain ⟨s, hs⟩ : ∃ s, ss[k]? = some s := ⟨ss[k]'(by rw [hlen.out]; exact hlt), by simp [hlen.out, hlt]⟩
          have hnx := letters_next ss k s hs
          have hle1 := letters_le ss (k + 1)
          have hsum : (catS (ss.take k)).size + s.size ≤ 20000 := by omega
          have HNX := Lib.hid (catS_next ss k s hs)
          have HSK := Lib.hid hs
          obtain ⟨bs, os, rfl, hcell⟩ := (HR.out.kept HK.out.below).lies (by omega)
          have hck := hcell k s hs
          have hcv := fun (w : World) => HCV.out w s
          clear hcell hs hnx hle1 hszk
          generalize catS (ss.take k) = acc at *
          go_wp2_with fail
          refine (append_h (HK.out.alloc _).drew ⟨#[102]⟩ (by decide) _ _ _ (strN s) (row_of_str wr s (by omega)).drew (k := 0) (by rw [← strN_length s, (cut_b _ _ hsum).1]; rfl) (cut_b _ _ hsum).2).mono ?_
          rintro e w4 ⟨rfl, h4⟩
          have H4 := Lib.hid h4
          obtain ⟨bs2, os2, he2, hcell2⟩ := (HR.out.kept h4.below).lies (by omega)
          simp only [Option.some.injEq, Addr.mk.injEq, and_true] at he2
          obtain ⟨rfl, rfl⟩ := he2
          have hck2 := hcell2 k s HSK.out
          clear hcv hck h4 hcell2
          go_wp2
          go_roundw
          case rel => exact ⟨k + 1, by omega, by go_num, by rw [HNX.out], by rw [HNX.out]; exact H4⟩
          case measure => simp [RowKit.intOf]; omega
        · obtain rfl : k = n := by omega
          have hfull : ss.take k = ss := List.take_of_length_le (by rw [hlen.out]; omega)
          rw [hfull] at HK hs20
          rw [hfull]
          clear hszk hlek hfull
          generalize catS ss = all at *
          obtain ⟨at_, hat, hat1⟩ : ∃ a : Nat, ((c0 : Int) % ((all.size : Int) + 1)) = (a : Int) ∧ a ≤ all.size := ⟨c0 % (all.size + 1), by simp, by have := Nat.mod_lt c0 (show 0 < all.size + 1 by omega); omega⟩
          obtain ⟨m, hm, hm1⟩ : ∃ a : Nat, ((c1 : Int) % ((all.size : Int) - (at_ : Int) + 1)) = (a : Int) ∧ at_ + a ≤ all.size := ⟨c1 % (all.size - at_ + 1), by rw [show ((all.size : Int) - (at_ : Int) + 1) = ((all.size - at_ + 1 : Nat) : Int) by omega]; simp, by have := Nat.mod_lt c1 (show 0 < all.size - at_ + 1 by omega); omega⟩
          obtain ⟨q, hq, hq1⟩ : ∃ a : Nat, ((c2 : Int) % ((m : Int) + 1)) = (a : Int) ∧ a ≤ m := ⟨c2 % (m + 1), by simp, by have := Nat.mod_lt c2 (show 0 < m + 1 by omega); omega⟩
          obtain ⟨z0, z1, z2⟩ := HZ.out _ HK.out.below
          go_wp2_with fail
          simp only [hat, hm, hq]
          clear hat hm hq z0 z1 z2
          refine (read_h HK.out ⟨#[102]⟩ (by decide) at_ m (by omega) (by omega) (l := ((strN all).drop at_).take m) (k := 0) (cut_r all at_ m hm1).2 (by rw [(cut_r all at_ m hm1).1]; rfl)).mono ?_
          rintro e w5 ⟨oa, ca, he, ra, b5⟩
          rw [cut_len all at_ m (by omega)] at he ra
          subst he
          have RA := Lib.hid ra
          have H5 := Lib.hid (HK.out.kept b5)
          clear ra b5
          go_wp2_with fail
          refine (read_h H5.out ⟨#[102]⟩ (by decide) at_ q (by omega) (by omega) (l := ((strN all).drop at_).take q) (k := 0) (cut_r all at_ q (by omega)).2 (by rw [(cut_r all at_ q (by omega)).1]; rfl)).mono ?_
          rintro e w6 ⟨ob, cb, he, rb, b6⟩
          rw [cut_len all at_ q (by omega)] at he rb
          subst he
          have RB := Lib.hid rb
          have RA6 := Lib.hid (RA.out.kept b6)
          have H6 := Lib.hid (H5.out.kept b6)
          clear rb b6
          go_wp2_with fail
          have hcr := cut_r all (at_ + q) (m - q) (by omega)
          rw [show ((at_ + q : Nat) : Int) = (at_ : Int) + (q : Int) by omega, show ((m - q : Nat) : Int) = (m : Int) - (q : Int) by omega] at hcr
          refine (read_h H6.out ⟨#[102]⟩ (by decide) ((at_ : Int) + (q : Int)) ((m : Int) - (q : Int)) (by omega) (by omega) (l := ((strN all).drop (at_ + q)).take (m - q)) (k := 0) hcr.2 (by rw [hcr.1]; rfl)).mono ?_
          rintro e w7 ⟨oc, cc, he, rc, b7⟩
          rw [cut_len all (at_ + q) (m - q) (by omega)] at he rc
          subst he
          have RC := Lib.hid rc
          have RB7 := Lib.hid (RB.out.kept b7)
          have RA7 := Lib.hid (RA6.out.kept b7)
          have H7 := Lib.hid (H6.out.kept b7)
          clear rc b7 hcr
          go_wp2_with fail
          have hcx := cut_x all at_ (all.size - at_ + 1) (by omega)
          rw [show ((all.size - at_ + 1 : Nat) : Int) = (all.size : Int) - (at_ : Int) + 1 by omega] at hcx
          refine (read_h H7.out ⟨#[102]⟩ (by decide) at_ ((all.size : Int) - (at_ : Int) + 1) (by omega) (by omega) (l := []) (k := 5) hcx.2 (by rw [hcx.1]; rfl)).mono ?_
          rintro e w8 ⟨ox, cx, he, rx, b8⟩
          rw [List.length_nil] at he
          subst he
          have RC8 := RC.out.kept b8
          have RB8 := RB7.out.kept b8
          have RA8 := RA7.out.kept b8
          have H8 := Lib.hid (H7.out.kept b8)
          have ka := fun m : BW w8 => conv_row (bwOf_row RA8 m)
          have kb := fun m : BW w8 => conv_row (bwOf_row RB8 m)
          have kc := fun m : BW w8 => conv_row (bwOf_row RC8 m)
          rw [strB_extract] at ka
          have hjoin : strB (((strN all).drop at_).take q) ++ strB (((strN all).drop (at_ + q)).take (m - q)) = all.extract at_ (at_ + m) := by
            rw [strB_append, cut_join _ _ _ _ hq1, strB_extract]
          have hs0 : (at_ : Int) + (m : Int) ≤ (all.size : Int) := by omega
          have hs4 : ((at_ : Int) + (m : Int)).toNat = at_ + m := by omega
          have hs5 : (at_ : Int) ≤ (at_ : Int) + (m : Int) := by omega
          have hsum : IntKind.i64.wrap ((at_ : Int) + (m : Int)) = (at_ : Int) + (m : Int) := by rw [IntKind.wrap_i64]; omega
          have kadd : ¬ 9223372036854775807 < (strB (((strN all).drop at_).take q)).size + (strB (((strN all).drop (at_ + q)).take (m - q))).size := by
            rw [strB_size, strB_size, cut_len all at_ q (by omega), cut_len all (at_ + q) (m - q) (by omega)]; omega
          clear RC8 RB8 RA8 b8 rx
          go_wp2_with fail
          refine wp_region_bw (w := w8) (by kernel_rfl) (by kernel_rfl) ?_
          repeat (go_big_quiet_step (fail))
          refine wpQuiet_nil ?_
          rintro w9 ⟨m9, rfl⟩
          go_wp2
          go_ret
          exact ⟨rfl, HEND.out _ (H8.out.kept (bwOf_below _ m9)).below⟩
theorem walk_FilesCut (ao : Option Addr) (n cap : Nat) (ss : List ByteArray) (w : World) (hr : RowS w ao n cap ss) (c0 c1 c2 : Int) (h0 : (Lit.int .u16 c0).wf = true) (h1 : (Lit.int .u16 c1).wf = true) (h2 : (Lit.int .u16 c2).wf = true) :
    Calls Try.prog 9 #[.slice ao n cap, .agg #[.int .u16 c0, .int .u16 c1, .int .u16 c2]] w fun e w' => e = .returned (.bool true) ∧ Below w.heap.size w w' := by
  have k0 := wf_u16 h0
  have k1 := wf_u16 h1
  have k2 := wf_u16 h2
  obtain ⟨c0, rfl⟩ := Int.eq_ofNat_of_zero_le k0.1
  obtain ⟨c1, rfl⟩ := Int.eq_ofNat_of_zero_le k1.1
  obtain ⟨c2, rfl⟩ := Int.eq_ofNat_of_zero_le k2.1
  exact walkN_FilesCut ao n cap ss w hr c0 c1 c2 (by omega) (by omega) (by omega)
end Go.Proofs.Ytdeggklfjdgfjaa
