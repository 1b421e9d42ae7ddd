/-
  WHAT IS PROVED: contracts of a Book's kind of bytes: more is put behind every list.
-/
import Derived.Test.YtfdjeaieddcgdabGreatDoorBkByte
import Derived.Test.YtfdjeaieddcgdabGreatDoorBkGrow
namespace Go.Proofs.YtfdjeaieddcgdabGreatDoor
open Go.RowKit
set_option linter.unusedVariables false

theorem one_new (w : World) (u : Value) (t : TypeId) : ∀ (j : Nat) (x : Value), [u][j]? = some x → (w.alloc (.cells #[u] t)).cell? ((⟨w.heap.size, 0, none⟩ : Addr).add j) = some x
  | 0, x, h => by
    cases h
    rw [show (⟨w.heap.size, 0, none⟩ : Addr).add 0 = ⟨w.heap.size, 0, none⟩ by unfold Addr.add; split <;> simp_all]
    exact bk_cell (heap_alloc_new _ _) 0
  | j + 1, x, h => by simp at h
set_option maxRecDepth 100000 in
set_option maxHeartbeats 4000000 in
theorem growByte_any (B base : Nat) (hv : Value) (E : List Ent) (w : World) (hbase : base ≤ w.heap.size) (hB : w.cell? ⟨B, 1, none⟩ = some hv) (hl : E.length ≤ 1000) (hk : ∀ x ∈ E, x.k ≤ 1000000 ∧ x.n ≤ 1099511627776) (H : Held w base B hv 225 5 1 E)
    (M : ∀ x ∈ E, w.ownsRow base 5 1 x.v x.n (List.replicate x.n (mk8 x.k))) :
    Calls Tryz.prog 116 #[.pointer (some ⟨B, 0, none⟩)] w fun e w' => e = .returned (.tuple #[]) ∧ GrowI base 225 5 1 (fun x n => List.replicate n (mk8 x.k)) hv E w w' E.length := by
  have HS := Lib.hid (grow_start H (fun x n => List.replicate n (mk8 x.k)) M)
  have HH := Lib.hid H
  have HKK := Lib.hid hk
  have HBB := Lib.hid hB
  have HBS := Lib.hid hbase
  rcases own_form H.own with ⟨h0, hE⟩ | ⟨g0, hc, h0, _, _, _, hob⟩
  · subst h0
    clear H hk hB hbase M
    go_enter Tryz.func116, Tryz.ntmps116
    have b0 := HBB.out
    go_wp2_with fail
    go_loop [2] (fun iv => iv = .int .i64 0) (fun _ => 0)
    case atStart => rfl
    case round =>
      obtain rfl := hrel
      go_wp2_with fail
      exact bodyPost_end (v := .tuple #[]) (by simp [results, go_sem]) rfl ⟨rfl, hE ▸ HS.out⟩
  subst h0
  clear H hk hB hbase M
  obtain ⟨i0, hi0, hz0, hz1, hz2⟩ := info_parts Tryz.info8
  have HI0 := Lib.hid hi0
  clear hi0
  go_enter Tryz.func116, Tryz.ntmps116
  go_wp2_with fail
  go_loopw [2] (fun iv wr => ∃ i : Nat, i ≤ E.length ∧ iv = .int .i64 i ∧ Hid (GrowI base 225 5 1 (fun x n => List.replicate n (mk8 x.k)) (.slice (some ⟨g0, 0, none⟩) E.length hc) E w wr i)) (fun iv _ => E.length - (intOf iv).toNat)
  case atStart => exact ⟨0, by omega, rfl, HS⟩
  case round =>
    obtain ⟨i, hi, rfl, HF⟩ := hrel
    have hnB : ¬ (blocksE E B ∨ (Value.slice (some ⟨g0, 0, none⟩) E.length hc).ownBlock = some B) := fun h => by
      rcases h with h | h
      · exact HH.out.free.1 h
      · cases h; exact HH.out.notB rfl
    have b0 : wr.cell? ⟨B, 1, none⟩ = some (.slice (some ⟨g0, 0, none⟩) E.length hc) := HF.out.1.cell HBB.out hnB
    clear hnB
    by_cases hlt : i < E.length
    · obtain ⟨x, hx⟩ : ∃ x, E[i]? = some x := ⟨E[i], by simp [hlt]⟩
      obtain ⟨ht, E', hlen, ho, hr⟩ := HF.out
      obtain ⟨l0, hl0, ⟨lo, ln, lc, rfl⟩, hxs, _⟩ := hr i x hx
      obtain ⟨p0, p1, p2, _, _⟩ := entry_at ho hlen hl0
      obtain ⟨hxk, hxn⟩ := HKK.out x (List.mem_of_getElem? hx)
      have HX := Lib.hid hx
      have HO := Lib.hid ho
      have HL0 := Lib.hid hl0
      have HLEN := Lib.hid hlen
      clear hx ht ho hr hl0 hlen
      obtain ⟨v, long, n, k⟩ := x
      dsimp only at hxk hxn hxs p0 p1 p2
      obtain ⟨ao, cap, rfl⟩ := own_slice3 hxs
      obtain ⟨m, hm⟩ : ∃ m, 1 + k % 250 = m := ⟨_, rfl⟩
      have MK : ∀ w : World, Calls Tryz.prog 229 #[.int .i64 (k : Int)] w fun e w' => e = .returned (.int .u8 (m : Int)) ∧ w = w' := by rw [← hm]; exact fun w => markByte_any k hxk w
      have HMK : Hid (mk8 k = .int .u8 (m : Int)) := by rw [← hm]; rfl
      clear hm
      have HXS := Lib.hid hxs
      clear hxs
      obtain ⟨wx, hwx⟩ : ∃ wx, wr.alloc (.cells #[.slice ao n cap, .slice lo ln lc, .int .i64 (k : Int)] 225) = wx := ⟨_, rfl⟩
      have HAX : Hid (wx.heap[wr.heap.size]? = some (.cells #[.slice ao n cap, .slice lo ln lc, .int .i64 (k : Int)] 225 (0, 0))) := by rw [← hwx]; exact heap_alloc_new _ _
      have HTX : Hid (Turn (fun k => (Value.slice ao n cap).ownBlock = some k) wr wx) := by rw [← hwx]; exact Turn.alloc _ _ _
      have HSX : Hid (wx.heap.size = wr.heap.size + 1) := by show _ = _; rw [← hwx]; simp
      have x0 : wx.cell? ⟨wr.heap.size, 0, none⟩ = some (.slice ao n cap) := bk_cell HAX.out 0
      have HWX := Lib.hid hwx
      clear hwx
      have HJ0 : Hid (GrowJ base 5 1 wx wx (.slice ao n cap) (.slice ao n cap) n n (List.replicate n (mk8 k)) (List.replicate n (mk8 k))) :=
        Lib.hid ⟨own_alloc HXS.out HWX.out, own_alloc HXS.out HWX.out, ⟨Nat.le_refl _, by rw [Nat.mul_one]; exact List.take_of_length_le (by simp)⟩, fun b hb => .inl hb, Turn.refl _ _⟩
      go_wp2_with fail
      rw [HWX.out]
      go_wp2_with fail
      go_loopw [4, 5] (fun lv kv w2 => ∃ kk : Nat, kk ≤ 40 ∧ kv = .int .i64 kk ∧ Hid (w2.heap[wr.heap.size]? = some (.cells #[.slice ao n cap, .slice lo ln lc, .int .i64 (k : Int)] 225 (0, 0))) ∧ Hid (GrowJ base 5 1 wx w2 (.slice ao n cap) lv n (n + kk) (List.replicate n (mk8 k)) (List.replicate (n + kk) (mk8 k)))) (fun _ kv _ => 40 - (intOf kv).toNat)
      case atStart => exact ⟨0, by omega, rfl, HAX, HJ0⟩
      case round =>
        obtain ⟨kk, hkk, rfl, HA, HJ⟩ := hrel
        rename World => w2
        obtain ⟨ao2, cap2, hlv⟩ := own_slice3 HJ.out.long
        subst hlv
        have hbs : base ≤ w2.heap.size := Nat.le_trans HBS.out (Nat.le_trans HF.out.1.size (Nat.le_trans HTX.out.size HJ.out.turn.size))
        have hlb : ¬ (Value.slice ao2 (n + kk) cap2).ownBlock = some wr.heap.size := fun hb => by
          rcases HJ.out.at_ _ hb with h1 | h1
          · have := (HXS.out.lt _ h1).2; omega
          · have := HSX.out; omega
        by_cases hlk : kk < 40
        · have y2 : w2.cell? ⟨wr.heap.size, 2, none⟩ = some (.int .i64 (k : Int)) := bk_cell HA.out 2
          obtain ⟨v', w', hrun, hj2, htu⟩ := (HJ.out.alloc (.cells #[.int .u8 (m : Int)] 5)).next (P := Tryz.prog) (bytes := 1) 29 29 i0 (.int .u8 0) Tryz.underlying29 HI0.out hz0 hz1 hz2 rfl (by omega) ⟨w2.heap.size, 0, none⟩ 1 [.int .u8 (m : Int)] rfl
            (one_new w2 _ _) (by intro u hu; rw [List.mem_singleton.1 hu]; rfl) (by unfold maxLen; omega) (by omega) (by simp; omega)
          have HRUN := Lib.hid hrun
          have HJ2 : Hid (GrowJ base 5 1 wx w' (.slice ao n cap) v' n (n + (kk + 1)) (List.replicate n (mk8 k)) (List.replicate (n + (kk + 1)) (mk8 k))) := by
            have e : List.replicate (n + kk) (mk8 k) ++ [.int .u8 (m : Int)] = List.replicate (n + (kk + 1)) (mk8 k) := by rw [← HMK.out, ← List.replicate_succ', Nat.add_assoc]
            rw [e] at hj2
            exact Lib.hid hj2
          have HA2 : Hid (w'.heap[wr.heap.size]? = some (.cells #[.slice ao n cap, .slice lo ln lc, .int .i64 (k : Int)] 225 (0, 0))) := Lib.hid (htu.at_ ((Turn.alloc (fun _ => False) w2 _).at_ HA.out id) hlb)
          clear hrun hj2 htu hlb hbs
          go_wp2_with (first | (go_at_call 229; refine (MK _).mono ?_; rintro e w1 ⟨rfl, rfl⟩) | (at_builtin; refine wpList_append_runB _ rfl _ _ _ rfl _ _ _ _ rfl rfl HRUN.out ?_))
          go_roundw
          case rel => exact ⟨kk + 1, by omega, by go_num, HA2, HJ2⟩
          case measure => simp [RowKit.intOf]; omega
        · obtain rfl : kk = 40 := by omega
          have hjb := HJ.out.back HTX.out
          have hxm := List.mem_of_getElem? HX.out
          have b2 : w2.cell? ⟨B, 1, none⟩ = some (.slice (some ⟨g0, 0, none⟩) E.length hc) := hjb.turn.cell b0 (fun hb => (HH.out.sep _ hxm B hb).1 rfl)
          obtain ⟨r0, r1, r2, rl, rf⟩ := entry_at (hjb.turn.own HO.out (fun j hj hj2 => (HH.out.sep _ hxm j hj2).2 hj)) HLEN.out HL0.out
          have HN := Lib.hid (grow_next HH.out HF.out HX.out hjb)
          clear hjb hxm hlb hbs
          go_wp2_with fail
          go_roundw
          case rel => exact ⟨i + 1, by omega, by go_num, HN⟩
          case measure => simp [RowKit.intOf]; omega
    · obtain rfl : i = E.length := by omega
      go_wp2_with fail
      exact bodyPost_end (v := .tuple #[]) (by simp [results, go_sem]) rfl ⟨rfl, HF.out⟩
end Go.Proofs.YtfdjeaieddcgdabGreatDoor
