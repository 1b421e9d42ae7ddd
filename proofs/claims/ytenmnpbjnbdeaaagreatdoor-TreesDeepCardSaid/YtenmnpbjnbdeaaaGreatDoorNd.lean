/-
  WHAT IS PROVED: expressions that read as one and the same are told the same. statements that read as one and the same are told the same.
-/
import Derived.Test.YtenmnpbjnbdeaaaGreatDoorMv
import Derived.Test.YtenmnpbjnbdeaaaGreatDoorMi
import Derived.Test.YtenmnpbjnbdeaaaGreatDoorMy
namespace Go.Proofs.YtenmnpbjnbdeaaaGreatDoor
section
open Go.RowKit Go.Shelf
set_option linter.unusedVariables false

def SameL (l : Exs) : Prop := ∀ (u v : Value) (w : World), REs (fun _ => True) w u l → REs (fun _ => True) w v l → Calls Tryz.prog 37 #[u, v] w fun e w' => e = .returned (.bool true) ∧ Below w.heap.size w w'
def Exs.each (F : Exs → Prop) : Exs → Prop
  | .nil => True
  | .cons _ l r => F l ∧ r.each F
set_option maxRecDepth 100000 in
set_option maxHeartbeats 8000000 in
theorem same_one (a : Atom) (l : Exs) (hL : SameL l) (u v : Value) (w : World) (hu : REs (fun _ => True) w u l) (hv : REs (fun _ => True) w v l) :
    Calls Tryz.prog 15 #[exVal a u, exVal a v] w fun e w' => e = .returned (.bool true) ∧ Below w.heap.size w w' := by
  have hC := fun W (hb : Below w.heap.size w W) => hL u v W (hu.below hb) (hv.below hb)
  obtain ⟨ao, c, rfl, _⟩ := hu.len
  obtain ⟨bo, d, rfl, _⟩ := hv.len
  obtain ⟨n, hn⟩ : ∃ n, l.len = n := ⟨_, rfl⟩
  rw [hn] at hC ⊢
  unfold exVal
  clear hu hv hn hL
  go_enter Tryz.func15, Tryz.ntmps15
  go_wp2_with fail
  refine (hC _ ((below_alloc _ _).trans ((below_alloc _ _).mono (by simp)))).mono ?_
  rintro e w1 ⟨rfl, hb⟩
  have HB := Lib.hid (((below_alloc w _).trans ((below_alloc _ _).mono (by simp))).trans (hb.mono (by simp; omega)))
  clear hb hC
  go_wp2_with fail
  go_ret
  exact ⟨rfl, HB.out⟩
set_option maxRecDepth 100000 in
set_option maxHeartbeats 8000000 in
theorem same_list (l : Exs) (hl : l.each SameL) : SameL l := by
  intro u v w hu hv
  obtain ⟨ao, c, rfl, h1, h2, h3⟩ := hu.len
  obtain ⟨bo, d, rfl, h4, h5, h6⟩ := hv.len
  obtain ⟨n, hn⟩ : ∃ n, l.len = n := ⟨_, rfl⟩
  rw [hn] at h1 h4 ⊢
  have HN : Hid (0 + l.len = n) := Lib.hid (by show _ = _; rw [Nat.zero_add]; exact hn)
  have HV := Lib.hid h3
  have HW := Lib.hid h6
  have HL := Lib.hid hl
  clear h3 h6 hu hv hn hl
  go_enter Tryz.func37, Tryz.ntmps37
  go_wp2_with fail
  go_loopw [5] (fun iv wr => ∃ (i : Nat) (rm : Exs), iv = .int .i64 (i : Int) ∧ Hid (i + rm.len = n) ∧ Hid (Below w.heap.size w wr) ∧ Hid (rm ≠ .nil → ∃ g, ao = some ⟨g, 0, none⟩ ∧ g < w.heap.size ∧ RE (fun _ => True) w rm g (i * 9)) ∧ Hid (rm ≠ .nil → ∃ g, bo = some ⟨g, 0, none⟩ ∧ g < w.heap.size ∧ RE (fun _ => True) w rm g (i * 9)) ∧ Hid (rm.each SameL)) (fun iv _ => n - (RowKit.intOf iv).toNat)
  case atStart => exact ⟨0, l, rfl, HN, Lib.hid (Below.refl _ _), Lib.hid (fun h => by rw [Nat.zero_mul]; exact HV.out h), Lib.hid (fun h => by rw [Nat.zero_mul]; exact HW.out h), HL⟩
  case round =>
    obtain ⟨i, rm, rfl, HI, HB, HA, HC, HS⟩ := hrel
    cases rm with
    | nil =>
      have hge : ¬ i < n := by have h := HI.out; unfold Exs.len at h; omega
      go_wp2_with fail
      go_ret
      exact ⟨rfl, HB.out⟩
    | cons a l2 rm2 =>
      have hlt : i < n := by have h := HI.out; unfold Exs.len at h; omega
      have HI2 : Hid (i + 1 + rm2.len = n) := Lib.hid (by have h := HI.out; unfold Exs.len at h; show _ = _; omega)
      obtain ⟨g, hao, hg, hre⟩ := HA.out (by intro h; cases h)
      obtain ⟨k, hbo, hk, hrf⟩ := HC.out (by intro h; cases h)
      subst hao hbo
      obtain ⟨u2, hru, hsu, hnu⟩ := hre.range
      obtain ⟨v2, hrv, hsv, hnv⟩ := hrf.range
      obtain ⟨a2, c2, hu2, _⟩ := hsu.len
      obtain ⟨b2, d2, hv2, _⟩ := hsv.len
      obtain ⟨m, hm⟩ : ∃ m, l2.len = m := ⟨_, rfl⟩
      rw [hm] at hu2 hv2
      subst hu2 hv2
      have hC : ∀ z : BW wr, Calls Tryz.prog 15 #[.agg (eA a (.slice a2 m c2)), .agg (eA a (.slice b2 m d2))] (bwOf wr z) fun e w' => e = .returned (.bool true) ∧ Below (bwOf wr z).heap.size (bwOf wr z) w' := fun z => by
        have hz := HB.out.trans ((bwOf_below wr z).mono HB.out.size)
        exact same_one a l2 HS.out.1 (.slice a2 m c2) (.slice b2 m d2) (bwOf wr z) (hsu.below hz) (hsv.below hz)
      have p0 : ∀ n : BW wr, (bwOf wr n).cell? ⟨g, i * 9, none⟩ = some (.int .u8 (a.kind : Int)) := bwOf_cell wr _ _ ((World.cell?_of_block (HB.out.block g hg)).trans (hru 0 _ rfl))
      have q0 : ∀ n : BW wr, (bwOf wr n).cell? ⟨k, i * 9, none⟩ = some (.int .u8 (a.kind : Int)) := bwOf_cell wr _ _ ((World.cell?_of_block (HB.out.block k hk)).trans (hrv 0 _ rfl))
      have p1 := bwOf_cell wr _ _ ((World.cell?_of_block (HB.out.block g hg)).trans (hru 1 _ rfl))
      have q1 := bwOf_cell wr _ _ ((World.cell?_of_block (HB.out.block k hk)).trans (hrv 1 _ rfl))
      have p2 := bwOf_cell wr _ _ ((World.cell?_of_block (HB.out.block g hg)).trans (hru 2 _ rfl))
      have q2 := bwOf_cell wr _ _ ((World.cell?_of_block (HB.out.block k hk)).trans (hrv 2 _ rfl))
      have p3 := bwOf_cell wr _ _ ((World.cell?_of_block (HB.out.block g hg)).trans (hru 3 _ rfl))
      have q3 := bwOf_cell wr _ _ ((World.cell?_of_block (HB.out.block k hk)).trans (hrv 3 _ rfl))
      have p4 := bwOf_cell wr _ _ ((World.cell?_of_block (HB.out.block g hg)).trans (hru 4 _ rfl))
      have q4 := bwOf_cell wr _ _ ((World.cell?_of_block (HB.out.block k hk)).trans (hrv 4 _ rfl))
      have p5 := bwOf_cell wr _ _ ((World.cell?_of_block (HB.out.block g hg)).trans (hru 5 _ rfl))
      have q5 := bwOf_cell wr _ _ ((World.cell?_of_block (HB.out.block k hk)).trans (hrv 5 _ rfl))
      have p6 := bwOf_cell wr _ _ ((World.cell?_of_block (HB.out.block g hg)).trans (hru 6 _ rfl))
      have q6 := bwOf_cell wr _ _ ((World.cell?_of_block (HB.out.block k hk)).trans (hrv 6 _ rfl))
      have p7 := bwOf_cell wr _ _ ((World.cell?_of_block (HB.out.block g hg)).trans (hru 7 _ rfl))
      have q7 := bwOf_cell wr _ _ ((World.cell?_of_block (HB.out.block k hk)).trans (hrv 7 _ rfl))
      have p8 := bwOf_cell wr _ _ ((World.cell?_of_block (HB.out.block g hg)).trans (hru 8 _ rfl))
      have q8 := bwOf_cell wr _ _ ((World.cell?_of_block (HB.out.block k hk)).trans (hrv 8 _ rfl))
      have HX := Lib.hid hnu
      have HY := Lib.hid hnv
      have HG := Lib.hid (And.intro hg hk)
      clear hre hrf hru hrv hsu hsv hnu hnv hm hg hk
      go_wp2_with fail
      refine wp_region_bw (w := wr) (by kernel_rfl) (by kernel_rfl) ?_
      repeat (go_big_quiet_step (fail))
      go_big_quiet_step ((go_at_call 15; exact below_of (hC _)))
      repeat (go_big_quiet_step (fail))
      refine wpQuiet_nil ?_
      rintro w3 ⟨m3, rfl⟩
      have HB3 := Lib.hid (HB.out.trans ((bwOf_below wr m3).mono HB.out.size))
      go_wp2_with fail
      go_roundw
      case rel => exact ⟨i + 1, rm2, rfl, HI2, HB3, Lib.hid (fun _ => ⟨g, rfl, HG.out.1, by rw [Nat.succ_mul]; exact HX.out⟩), Lib.hid (fun _ => ⟨k, rfl, HG.out.2, by rw [Nat.succ_mul]; exact HY.out⟩), Lib.hid HS.out.2⟩
      case measure => simp only [RowKit.intOf]; omega
theorem same_each : ∀ l : Exs, l.each SameL
  | .nil => trivial
  | .cons a l r => ⟨same_list l (same_each l), same_each r⟩
theorem same_exprs (l : Exs) : SameL l := same_list l (same_each l)
theorem same_expr (a : Atom) (l : Exs) (u v : Value) (w : World) (hu : REs (fun _ => True) w u l) (hv : REs (fun _ => True) w v l) :
    Calls Tryz.prog 15 #[exVal a u, exVal a v] w fun e w' => e = .returned (.bool true) ∧ Below w.heap.size w w' := same_one a l (same_exprs l) u v w hu hv
end
section
open Go.RowKit Go.Shelf
set_option linter.unusedVariables false

set_option maxRecDepth 100000 in
set_option maxHeartbeats 8000000 in
theorem sameItem_one (x : ItemM) (a2 b2 : Option Addr) (m c2 d2 : Nat) (w : World) (hu : REs (fun _ => True) w (.slice a2 m c2) x.e.l) (hv : REs (fun _ => True) w (.slice b2 m d2) x.e.l) :
    Calls Tryz.prog 90 #[.agg #[.int .u8 (x.e.a.kind : Int), .int .u8 (x.e.a.op : Int), .string (strU x.e.a.table), .string (strU x.e.a.name), .int .u8 (x.e.a.vk : Int), .int .i64 x.e.a.vi, .string (strU x.e.a.vs), .bool x.e.a.star, .slice a2 m c2, .string (strU x.aka), .bool x.star], .agg #[.int .u8 (x.e.a.kind : Int), .int .u8 (x.e.a.op : Int), .string (strU x.e.a.table), .string (strU x.e.a.name), .int .u8 (x.e.a.vk : Int), .int .i64 x.e.a.vi, .string (strU x.e.a.vs), .bool x.e.a.star, .slice b2 m d2, .string (strU x.aka), .bool x.star]] w fun e w' => e = .returned (.bool true) ∧ Below w.heap.size w w' := by
  have hC := fun W (hb : Below w.heap.size w W) => same_expr x.e.a x.e.l (.slice a2 m c2) (.slice b2 m d2) W (hu.below hb) (hv.below hb)
  have HU : Hid (((w.alloc (.cells #[.int .u8 (x.e.a.kind : Int), .int .u8 (x.e.a.op : Int), .string (strU x.e.a.table), .string (strU x.e.a.name), .int .u8 (x.e.a.vk : Int), .int .i64 x.e.a.vi, .string (strU x.e.a.vs), .bool x.e.a.star, .slice a2 m c2, .string (strU x.aka), .bool x.star] 49)).alloc (.cells #[.int .u8 (x.e.a.kind : Int), .int .u8 (x.e.a.op : Int), .string (strU x.e.a.table), .string (strU x.e.a.name), .int .u8 (x.e.a.vk : Int), .int .i64 x.e.a.vi, .string (strU x.e.a.vs), .bool x.e.a.star, .slice b2 m d2, .string (strU x.aka), .bool x.star] 49)).heap[w.heap.size]? = some (.cells #[.int .u8 (x.e.a.kind : Int), .int .u8 (x.e.a.op : Int), .string (strU x.e.a.table), .string (strU x.e.a.name), .int .u8 (x.e.a.vk : Int), .int .i64 x.e.a.vi, .string (strU x.e.a.vs), .bool x.e.a.star, .slice a2 m c2, .string (strU x.aka), .bool x.star] 49 (0, 0))) := Lib.hid (heap_alloc2_old _ _ _)
  have HV : Hid (((w.alloc (.cells #[.int .u8 (x.e.a.kind : Int), .int .u8 (x.e.a.op : Int), .string (strU x.e.a.table), .string (strU x.e.a.name), .int .u8 (x.e.a.vk : Int), .int .i64 x.e.a.vi, .string (strU x.e.a.vs), .bool x.e.a.star, .slice a2 m c2, .string (strU x.aka), .bool x.star] 49)).alloc (.cells #[.int .u8 (x.e.a.kind : Int), .int .u8 (x.e.a.op : Int), .string (strU x.e.a.table), .string (strU x.e.a.name), .int .u8 (x.e.a.vk : Int), .int .i64 x.e.a.vi, .string (strU x.e.a.vs), .bool x.e.a.star, .slice b2 m d2, .string (strU x.aka), .bool x.star] 49)).heap[w.heap.size + 1]? = some (.cells #[.int .u8 (x.e.a.kind : Int), .int .u8 (x.e.a.op : Int), .string (strU x.e.a.table), .string (strU x.e.a.name), .int .u8 (x.e.a.vk : Int), .int .i64 x.e.a.vi, .string (strU x.e.a.vs), .bool x.e.a.star, .slice b2 m d2, .string (strU x.aka), .bool x.star] 49 (0, 0))) := Lib.hid (heap_alloc2_new _ _ _)
  unfold exVal at hC
  clear hu hv
  go_enter Tryz.func90, Tryz.ntmps90
  go_wp2_with (first
    | (refine wpList_load_mid rfl 36 _ rfl w.heap.size 0 rfl _ _ (World.rangeAt_of_block HU.out 0 9 : World.rangeAt _ _ _ (eL x.e.a (.slice a2 m c2))) Tryz.underlying36 rfl (by kernel_rfl) ?_)
    | (refine wpList_load_mid rfl 36 _ rfl (w.heap.size + 1) 0 rfl _ _ (World.rangeAt_of_block HV.out 0 9 : World.rangeAt _ _ _ (eL x.e.a (.slice b2 m d2))) Tryz.underlying36 rfl (by kernel_rfl) ?_))
  refine (hC _ ((below_alloc _ _).trans ((below_alloc _ _).mono (by simp)))).mono ?_
  rintro e w1 ⟨rfl, hb⟩
  have p9 := bk_cell ((hb.block w.heap.size (by simp; omega)).trans HU.out) 9
  have q9 := bk_cell ((hb.block (w.heap.size + 1) (by simp)).trans HV.out) 9
  have p10 := bk_cell ((hb.block w.heap.size (by simp; omega)).trans HU.out) 10
  have q10 := bk_cell ((hb.block (w.heap.size + 1) (by simp)).trans HV.out) 10
  have HB := Lib.hid (((below_alloc w _).trans ((below_alloc _ _).mono (by simp))).trans (hb.mono (by simp; omega)))
  clear hb hC
  go_wp2_with fail
  go_ret
  exact ⟨rfl, HB.out⟩
set_option maxRecDepth 100000 in
set_option maxHeartbeats 8000000 in
theorem sameFrom_one (x : FromM) (a2 b2 : Option Addr) (m c2 d2 : Nat) (w : World) (hu : REs (fun _ => True) w (.slice a2 m c2) x.on.l) (hv : REs (fun _ => True) w (.slice b2 m d2) x.on.l) :
    Calls Tryz.prog 91 #[.agg #[.string (strU x.table), .string (strU x.aka), .int .u8 (x.on.a.kind : Int), .int .u8 (x.on.a.op : Int), .string (strU x.on.a.table), .string (strU x.on.a.name), .int .u8 (x.on.a.vk : Int), .int .i64 x.on.a.vi, .string (strU x.on.a.vs), .bool x.on.a.star, .slice a2 m c2], .agg #[.string (strU x.table), .string (strU x.aka), .int .u8 (x.on.a.kind : Int), .int .u8 (x.on.a.op : Int), .string (strU x.on.a.table), .string (strU x.on.a.name), .int .u8 (x.on.a.vk : Int), .int .i64 x.on.a.vi, .string (strU x.on.a.vs), .bool x.on.a.star, .slice b2 m d2]] w fun e w' => e = .returned (.bool true) ∧ Below w.heap.size w w' := by
  have hC := fun W (hb : Below w.heap.size w W) => same_expr x.on.a x.on.l (.slice a2 m c2) (.slice b2 m d2) W (hu.below hb) (hv.below hb)
  have HU : Hid (((w.alloc (.cells #[.string (strU x.table), .string (strU x.aka), .int .u8 (x.on.a.kind : Int), .int .u8 (x.on.a.op : Int), .string (strU x.on.a.table), .string (strU x.on.a.name), .int .u8 (x.on.a.vk : Int), .int .i64 x.on.a.vi, .string (strU x.on.a.vs), .bool x.on.a.star, .slice a2 m c2] 138)).alloc (.cells #[.string (strU x.table), .string (strU x.aka), .int .u8 (x.on.a.kind : Int), .int .u8 (x.on.a.op : Int), .string (strU x.on.a.table), .string (strU x.on.a.name), .int .u8 (x.on.a.vk : Int), .int .i64 x.on.a.vi, .string (strU x.on.a.vs), .bool x.on.a.star, .slice b2 m d2] 138)).heap[w.heap.size]? = some (.cells #[.string (strU x.table), .string (strU x.aka), .int .u8 (x.on.a.kind : Int), .int .u8 (x.on.a.op : Int), .string (strU x.on.a.table), .string (strU x.on.a.name), .int .u8 (x.on.a.vk : Int), .int .i64 x.on.a.vi, .string (strU x.on.a.vs), .bool x.on.a.star, .slice a2 m c2] 138 (0, 0))) := Lib.hid (heap_alloc2_old _ _ _)
  have HV : Hid (((w.alloc (.cells #[.string (strU x.table), .string (strU x.aka), .int .u8 (x.on.a.kind : Int), .int .u8 (x.on.a.op : Int), .string (strU x.on.a.table), .string (strU x.on.a.name), .int .u8 (x.on.a.vk : Int), .int .i64 x.on.a.vi, .string (strU x.on.a.vs), .bool x.on.a.star, .slice a2 m c2] 138)).alloc (.cells #[.string (strU x.table), .string (strU x.aka), .int .u8 (x.on.a.kind : Int), .int .u8 (x.on.a.op : Int), .string (strU x.on.a.table), .string (strU x.on.a.name), .int .u8 (x.on.a.vk : Int), .int .i64 x.on.a.vi, .string (strU x.on.a.vs), .bool x.on.a.star, .slice b2 m d2] 138)).heap[w.heap.size + 1]? = some (.cells #[.string (strU x.table), .string (strU x.aka), .int .u8 (x.on.a.kind : Int), .int .u8 (x.on.a.op : Int), .string (strU x.on.a.table), .string (strU x.on.a.name), .int .u8 (x.on.a.vk : Int), .int .i64 x.on.a.vi, .string (strU x.on.a.vs), .bool x.on.a.star, .slice b2 m d2] 138 (0, 0))) := Lib.hid (heap_alloc2_new _ _ _)
  unfold exVal at hC
  clear hu hv
  go_enter Tryz.func91, Tryz.ntmps91
  go_wp2_with (first
    | (refine wpListG_load_mid rfl 36 _ rfl w.heap.size 2 rfl _ _ (World.rangeAt_of_block HU.out 2 9 : World.rangeAt _ _ _ (eL x.on.a (.slice a2 m c2))) Tryz.underlying36 rfl (by kernel_rfl) ?_)
    | (refine wpListG_load_mid rfl 36 _ rfl (w.heap.size + 1) 2 rfl _ _ (World.rangeAt_of_block HV.out 2 9 : World.rangeAt _ _ _ (eL x.on.a (.slice b2 m d2))) Tryz.underlying36 rfl (by kernel_rfl) ?_))
  refine (hC _ ((below_alloc _ _).trans ((below_alloc _ _).mono (by simp)))).mono ?_
  rintro e w1 ⟨rfl, hb⟩
  have HB := Lib.hid (((below_alloc w _).trans ((below_alloc _ _).mono (by simp))).trans (hb.mono (by simp; omega)))
  clear hb hC
  go_wp2_with fail
  go_ret
  exact ⟨rfl, HB.out⟩
set_option maxRecDepth 100000 in
set_option maxHeartbeats 8000000 in
theorem sameOrder_one (x : OrderM) (a2 b2 : Option Addr) (m c2 d2 : Nat) (w : World) (hu : REs (fun _ => True) w (.slice a2 m c2) x.e.l) (hv : REs (fun _ => True) w (.slice b2 m d2) x.e.l) :
    Calls Tryz.prog 92 #[.agg #[.int .u8 (x.e.a.kind : Int), .int .u8 (x.e.a.op : Int), .string (strU x.e.a.table), .string (strU x.e.a.name), .int .u8 (x.e.a.vk : Int), .int .i64 x.e.a.vi, .string (strU x.e.a.vs), .bool x.e.a.star, .slice a2 m c2, .bool x.down], .agg #[.int .u8 (x.e.a.kind : Int), .int .u8 (x.e.a.op : Int), .string (strU x.e.a.table), .string (strU x.e.a.name), .int .u8 (x.e.a.vk : Int), .int .i64 x.e.a.vi, .string (strU x.e.a.vs), .bool x.e.a.star, .slice b2 m d2, .bool x.down]] w fun e w' => e = .returned (.bool true) ∧ Below w.heap.size w w' := by
  have hC := fun W (hb : Below w.heap.size w W) => same_expr x.e.a x.e.l (.slice a2 m c2) (.slice b2 m d2) W (hu.below hb) (hv.below hb)
  have HU : Hid (((w.alloc (.cells #[.int .u8 (x.e.a.kind : Int), .int .u8 (x.e.a.op : Int), .string (strU x.e.a.table), .string (strU x.e.a.name), .int .u8 (x.e.a.vk : Int), .int .i64 x.e.a.vi, .string (strU x.e.a.vs), .bool x.e.a.star, .slice a2 m c2, .bool x.down] 51)).alloc (.cells #[.int .u8 (x.e.a.kind : Int), .int .u8 (x.e.a.op : Int), .string (strU x.e.a.table), .string (strU x.e.a.name), .int .u8 (x.e.a.vk : Int), .int .i64 x.e.a.vi, .string (strU x.e.a.vs), .bool x.e.a.star, .slice b2 m d2, .bool x.down] 51)).heap[w.heap.size]? = some (.cells #[.int .u8 (x.e.a.kind : Int), .int .u8 (x.e.a.op : Int), .string (strU x.e.a.table), .string (strU x.e.a.name), .int .u8 (x.e.a.vk : Int), .int .i64 x.e.a.vi, .string (strU x.e.a.vs), .bool x.e.a.star, .slice a2 m c2, .bool x.down] 51 (0, 0))) := Lib.hid (heap_alloc2_old _ _ _)
  have HV : Hid (((w.alloc (.cells #[.int .u8 (x.e.a.kind : Int), .int .u8 (x.e.a.op : Int), .string (strU x.e.a.table), .string (strU x.e.a.name), .int .u8 (x.e.a.vk : Int), .int .i64 x.e.a.vi, .string (strU x.e.a.vs), .bool x.e.a.star, .slice a2 m c2, .bool x.down] 51)).alloc (.cells #[.int .u8 (x.e.a.kind : Int), .int .u8 (x.e.a.op : Int), .string (strU x.e.a.table), .string (strU x.e.a.name), .int .u8 (x.e.a.vk : Int), .int .i64 x.e.a.vi, .string (strU x.e.a.vs), .bool x.e.a.star, .slice b2 m d2, .bool x.down] 51)).heap[w.heap.size + 1]? = some (.cells #[.int .u8 (x.e.a.kind : Int), .int .u8 (x.e.a.op : Int), .string (strU x.e.a.table), .string (strU x.e.a.name), .int .u8 (x.e.a.vk : Int), .int .i64 x.e.a.vi, .string (strU x.e.a.vs), .bool x.e.a.star, .slice b2 m d2, .bool x.down] 51 (0, 0))) := Lib.hid (heap_alloc2_new _ _ _)
  unfold exVal at hC
  clear hu hv
  go_enter Tryz.func92, Tryz.ntmps92
  go_wp2_with (first
    | (refine wpList_load_mid rfl 36 _ rfl w.heap.size 0 rfl _ _ (World.rangeAt_of_block HU.out 0 9 : World.rangeAt _ _ _ (eL x.e.a (.slice a2 m c2))) Tryz.underlying36 rfl (by kernel_rfl) ?_)
    | (refine wpList_load_mid rfl 36 _ rfl (w.heap.size + 1) 0 rfl _ _ (World.rangeAt_of_block HV.out 0 9 : World.rangeAt _ _ _ (eL x.e.a (.slice b2 m d2))) Tryz.underlying36 rfl (by kernel_rfl) ?_))
  refine (hC _ ((below_alloc _ _).trans ((below_alloc _ _).mono (by simp)))).mono ?_
  rintro e w1 ⟨rfl, hb⟩
  have p9 := bk_cell ((hb.block w.heap.size (by simp; omega)).trans HU.out) 9
  have q9 := bk_cell ((hb.block (w.heap.size + 1) (by simp)).trans HV.out) 9
  have HB := Lib.hid (((below_alloc w _).trans ((below_alloc _ _).mono (by simp))).trans (hb.mono (by simp; omega)))
  clear hb hC
  go_wp2_with fail
  go_ret
  exact ⟨rfl, HB.out⟩
set_option maxRecDepth 100000 in
set_option maxHeartbeats 8000000 in
theorem sameTexts_yes (l : List (List UInt8)) (u v : Value) (w : World) (hu : RowOf strE (fun _ => True) w u l) (hv : RowOf strE (fun _ => True) w v l) :
    Calls Tryz.prog 48 #[u, v] w fun e w' => e = .returned (.bool true) ∧ Below w.heap.size w w' := by
  obtain ⟨n, hn⟩ : ∃ n, l.length = n := ⟨_, rfl⟩
  by_cases h0 : l = []
  · subst h0
    obtain ⟨ao, c, rfl, _⟩ := hu.slice
    obtain ⟨bo, d, rfl, _⟩ := hv.slice
    clear hu hv hn
    show Calls Tryz.prog 48 #[.slice ao 0 c, .slice bo 0 d] w _
    go_enter Tryz.func48, Tryz.ntmps48
    go_wp2_with fail
    go_loopw [5] (fun iv wr => iv = .int .i64 0 ∧ wr = w) (fun iv _ => 0)
    case atStart => exact ⟨rfl, rfl⟩
    case round =>
      obtain ⟨rfl, rfl⟩ := hrel
      go_wp2_with fail
      go_ret
      exact ⟨rfl, Below.refl _ _⟩
  rcases hu with ⟨_, h⟩ | ⟨g, c, css, rfl, h2, h3, _, h4, h5, h6⟩
  · exact absurd h h0
  rcases hv with ⟨_, h⟩ | ⟨k, d, dss, rfl, g2, g3, _, g4, g5, g6⟩
  · exact absurd h h0
  have HU := Lib.hid (And.intro h4 (And.intro h5 h6))
  have HV := Lib.hid (And.intro g4 (And.intro g5 g6))
  have HN := Lib.hid hn
  rw [hn] at h2 g2 ⊢
  clear h0 h4 h5 h6 g4 g5 g6 hn
  go_enter Tryz.func48, Tryz.ntmps48
  go_wp2_with fail
  go_loopw [5] (fun iv wr => ∃ (i : Nat) (b rm : List (List UInt8)), iv = .int .i64 (i : Int) ∧ Hid (l = b ++ rm ∧ b.length = i) ∧ Hid (Below w.heap.size w wr)) (fun iv _ => n - (RowKit.intOf iv).toNat)
  case atStart => exact ⟨0, [], l, rfl, Lib.hid ⟨rfl, rfl⟩, Lib.hid (Below.refl _ _)⟩
  case round =>
    obtain ⟨i, b, rm, rfl, HD, HB⟩ := hrel
    cases rm with
    | nil =>
      have hge : ¬ i < n := by have h := HD.out; have h2 := HN.out; rw [h.1] at h2; simp at h2; omega
      go_wp2_with fail
      go_ret
      exact ⟨rfl, HB.out⟩
    | cons x rm =>
      have hlt : i < n := by have h := HD.out; have h2 := HN.out; rw [h.1] at h2; simp at h2; omega
      obtain ⟨cs, hx, hrp⟩ := row_at HU.out.2.1 HU.out.2.2 HD.out.1
      obtain ⟨ds, hy, hrq⟩ := row_at HV.out.2.1 HV.out.2.2 HD.out.1
      rw [HD.out.2] at hrp hrq
      have hg := HU.out.1
      have hk := HV.out.1
      have HD2 : Hid (l = (b ++ [x]) ++ rm ∧ (b ++ [x]).length = i + 1) := Lib.hid ⟨by rw [HD.out.1]; simp, by rw [List.length_append, HD.out.2]; rfl⟩
      have e1 : cs = [.string (strU x)] := hx
      have e2 : ds = [.string (strU x)] := hy
      subst e1 e2
      have p0 : ∀ n : BW wr, (bwOf wr n).cell? ⟨g, i, none⟩ = some (.string (strU x)) := bwOf_cell wr _ _ ((World.cell?_of_block (HB.out.block g hg)).trans (by have h := hrp 0 _ rfl; rw [show i * strE.sz + 0 = i from by show i * 1 + 0 = i; omega] at h; exact h))
      have q0 : ∀ n : BW wr, (bwOf wr n).cell? ⟨k, i, none⟩ = some (.string (strU x)) := bwOf_cell wr _ _ ((World.cell?_of_block (HB.out.block k hk)).trans (by have h := hrq 0 _ rfl; rw [show i * strE.sz + 0 = i from by show i * 1 + 0 = i; omega] at h; exact h))
      clear hrp hrq hg hk hx hy
      go_wp2_with fail
      refine wp_region_bw (w := wr) (by kernel_rfl) (by kernel_rfl) ?_
      repeat (go_big_quiet_step (fail))
      refine wpQuiet_nil ?_
      rintro w3 ⟨m3, rfl⟩
      have HB3 := Lib.hid (HB.out.trans ((bwOf_below wr m3).mono HB.out.size))
      go_wp2_with fail
      go_roundw
      case rel => exact ⟨i + 1, b ++ [x], rm, rfl, HD2, HB3⟩
      case measure => simp only [RowKit.intOf]; omega
set_option maxRecDepth 100000 in
set_option maxHeartbeats 8000000 in
theorem sameHeaps_yes (l : List (List Ex)) (u v : Value) (w : World) (hu : RowOf rowE (fun _ => True) w u l) (hv : RowOf rowE (fun _ => True) w v l) :
    Calls Tryz.prog 49 #[u, v] w fun e w' => e = .returned (.bool true) ∧ Below w.heap.size w w' := by
  obtain ⟨n, hn⟩ : ∃ n, l.length = n := ⟨_, rfl⟩
  by_cases h0 : l = []
  · subst h0
    obtain ⟨ao, c, rfl, _⟩ := hu.slice
    obtain ⟨bo, d, rfl, _⟩ := hv.slice
    clear hu hv hn
    show Calls Tryz.prog 49 #[.slice ao 0 c, .slice bo 0 d] w _
    go_enter Tryz.func49, Tryz.ntmps49
    go_wp2_with fail
    go_loopw [5] (fun iv wr => iv = .int .i64 0 ∧ wr = w) (fun iv _ => 0)
    case atStart => exact ⟨rfl, rfl⟩
    case round =>
      obtain ⟨rfl, rfl⟩ := hrel
      go_wp2_with fail
      go_ret
      exact ⟨rfl, Below.refl _ _⟩
  rcases hu with ⟨_, h⟩ | ⟨g, c, css, rfl, h2, h3, _, h4, h5, h6⟩
  · exact absurd h h0
  rcases hv with ⟨_, h⟩ | ⟨k, d, dss, rfl, g2, g3, _, g4, g5, g6⟩
  · exact absurd h h0
  have HU := Lib.hid (And.intro h4 (And.intro h5 h6))
  have HV := Lib.hid (And.intro g4 (And.intro g5 g6))
  have HN := Lib.hid hn
  rw [hn] at h2 g2 ⊢
  clear h0 h4 h5 h6 g4 g5 g6 hn
  go_enter Tryz.func49, Tryz.ntmps49
  go_wp2_with fail
  go_loopw [5] (fun iv wr => ∃ (i : Nat) (b rm : List (List Ex)), iv = .int .i64 (i : Int) ∧ Hid (l = b ++ rm ∧ b.length = i) ∧ Hid (Below w.heap.size w wr)) (fun iv _ => n - (RowKit.intOf iv).toNat)
  case atStart => exact ⟨0, [], l, rfl, Lib.hid ⟨rfl, rfl⟩, Lib.hid (Below.refl _ _)⟩
  case round =>
    obtain ⟨i, b, rm, rfl, HD, HB⟩ := hrel
    cases rm with
    | nil =>
      have hge : ¬ i < n := by have h := HD.out; have h2 := HN.out; rw [h.1] at h2; simp at h2; omega
      go_wp2_with fail
      go_ret
      exact ⟨rfl, HB.out⟩
    | cons x rm =>
      have hlt : i < n := by have h := HD.out; have h2 := HN.out; rw [h.1] at h2; simp at h2; omega
      obtain ⟨cs, hx, hrp⟩ := row_at HU.out.2.1 HU.out.2.2 HD.out.1
      obtain ⟨ds, hy, hrq⟩ := row_at HV.out.2.1 HV.out.2.2 HD.out.1
      rw [HD.out.2] at hrp hrq
      have hg := HU.out.1
      have hk := HV.out.1
      have HD2 : Hid (l = (b ++ [x]) ++ rm ∧ (b ++ [x]).length = i + 1) := Lib.hid ⟨by rw [HD.out.1]; simp, by rw [List.length_append, HD.out.2]; rfl⟩
      obtain ⟨u2, rfl, hsu⟩ := hx
      obtain ⟨v2, rfl, hsv⟩ := hy
      obtain ⟨a2, c2, hu2, _⟩ := hsu.len
      obtain ⟨b2, d2, hv2, _⟩ := hsv.len
      obtain ⟨m, hm⟩ : ∃ m, (Exs.ofL x).len = m := ⟨_, rfl⟩
      rw [hm] at hu2 hv2
      subst hu2 hv2
      have hC : ∀ z : BW wr, Calls Tryz.prog 37 #[.slice a2 m c2, .slice b2 m d2] (bwOf wr z) fun e w' => e = .returned (.bool true) ∧ Below (bwOf wr z).heap.size (bwOf wr z) w' := fun z => by
        have hz := HB.out.trans ((bwOf_below wr z).mono HB.out.size)
        exact same_exprs (Exs.ofL x) (.slice a2 m c2) (.slice b2 m d2) (bwOf wr z) (hsu.below hz) (hsv.below hz)
      have p0 : ∀ n : BW wr, (bwOf wr n).cell? ⟨g, i, none⟩ = some (.slice a2 m c2) := bwOf_cell wr _ _ ((World.cell?_of_block (HB.out.block g hg)).trans (by have h := hrp 0 _ rfl; rw [show i * rowE.sz + 0 = i from by show i * 1 + 0 = i; omega] at h; exact h))
      have q0 : ∀ n : BW wr, (bwOf wr n).cell? ⟨k, i, none⟩ = some (.slice b2 m d2) := bwOf_cell wr _ _ ((World.cell?_of_block (HB.out.block k hk)).trans (by have h := hrq 0 _ rfl; rw [show i * rowE.sz + 0 = i from by show i * 1 + 0 = i; omega] at h; exact h))
      clear hrp hrq hg hk hsu hsv hm
      go_wp2_with fail
      refine wp_region_bw (w := wr) (by kernel_rfl) (by kernel_rfl) ?_
      repeat (go_big_quiet_step (fail))
      go_big_quiet_step ((go_at_call 37; exact below_of (hC _)))
      repeat (go_big_quiet_step (fail))
      refine wpQuiet_nil ?_
      rintro w3 ⟨m3, rfl⟩
      have HB3 := Lib.hid (HB.out.trans ((bwOf_below wr m3).mono HB.out.size))
      go_wp2_with fail
      go_roundw
      case rel => exact ⟨i + 1, b ++ [x], rm, rfl, HD2, HB3⟩
      case measure => simp only [RowKit.intOf]; omega
set_option maxRecDepth 100000 in
set_option maxHeartbeats 8000000 in
theorem sameItems_yes (l : List (ItemM)) (u v : Value) (w : World) (hu : RowOf itemE (fun _ => True) w u l) (hv : RowOf itemE (fun _ => True) w v l) :
    Calls Tryz.prog 50 #[u, v] w fun e w' => e = .returned (.bool true) ∧ Below w.heap.size w w' := by
  obtain ⟨n, hn⟩ : ∃ n, l.length = n := ⟨_, rfl⟩
  by_cases h0 : l = []
  · subst h0
    obtain ⟨ao, c, rfl, _⟩ := hu.slice
    obtain ⟨bo, d, rfl, _⟩ := hv.slice
    clear hu hv hn
    show Calls Tryz.prog 50 #[.slice ao 0 c, .slice bo 0 d] w _
    go_enter Tryz.func50, Tryz.ntmps50
    go_wp2_with fail
    go_loopw [5] (fun iv wr => iv = .int .i64 0 ∧ wr = w) (fun iv _ => 0)
    case atStart => exact ⟨rfl, rfl⟩
    case round =>
      obtain ⟨rfl, rfl⟩ := hrel
      go_wp2_with fail
      go_ret
      exact ⟨rfl, Below.refl _ _⟩
  rcases hu with ⟨_, h⟩ | ⟨g, c, css, rfl, h2, h3, _, h4, h5, h6⟩
  · exact absurd h h0
  rcases hv with ⟨_, h⟩ | ⟨k, d, dss, rfl, g2, g3, _, g4, g5, g6⟩
  · exact absurd h h0
  have HU := Lib.hid (And.intro h4 (And.intro h5 h6))
  have HV := Lib.hid (And.intro g4 (And.intro g5 g6))
  have HN := Lib.hid hn
  rw [hn] at h2 g2 ⊢
  clear h0 h4 h5 h6 g4 g5 g6 hn
  go_enter Tryz.func50, Tryz.ntmps50
  go_wp2_with fail
  go_loopw [5] (fun iv wr => ∃ (i : Nat) (b rm : List (ItemM)), iv = .int .i64 (i : Int) ∧ Hid (l = b ++ rm ∧ b.length = i) ∧ Hid (Below w.heap.size w wr)) (fun iv _ => n - (RowKit.intOf iv).toNat)
  case atStart => exact ⟨0, [], l, rfl, Lib.hid ⟨rfl, rfl⟩, Lib.hid (Below.refl _ _)⟩
  case round =>
    obtain ⟨i, b, rm, rfl, HD, HB⟩ := hrel
    cases rm with
    | nil =>
      have hge : ¬ i < n := by have h := HD.out; have h2 := HN.out; rw [h.1] at h2; simp at h2; omega
      go_wp2_with fail
      go_ret
      exact ⟨rfl, HB.out⟩
    | cons x rm =>
      have hlt : i < n := by have h := HD.out; have h2 := HN.out; rw [h.1] at h2; simp at h2; omega
      obtain ⟨cs, hx, hrp⟩ := row_at HU.out.2.1 HU.out.2.2 HD.out.1
      obtain ⟨ds, hy, hrq⟩ := row_at HV.out.2.1 HV.out.2.2 HD.out.1
      rw [HD.out.2] at hrp hrq
      have hg := HU.out.1
      have hk := HV.out.1
      have HD2 : Hid (l = (b ++ [x]) ++ rm ∧ (b ++ [x]).length = i + 1) := Lib.hid ⟨by rw [HD.out.1]; simp, by rw [List.length_append, HD.out.2]; rfl⟩
      obtain ⟨u2, rfl, hsu⟩ := hx
      obtain ⟨v2, rfl, hsv⟩ := hy
      obtain ⟨a2, c2, hu2, _⟩ := hsu.len
      obtain ⟨b2, d2, hv2, _⟩ := hsv.len
      obtain ⟨m, hm⟩ : ∃ m, x.e.l.len = m := ⟨_, rfl⟩
      rw [hm] at hu2 hv2
      subst hu2 hv2
      have hC : ∀ z : BW wr, Calls Tryz.prog 90 #[.agg #[.int .u8 (x.e.a.kind : Int), .int .u8 (x.e.a.op : Int), .string (strU x.e.a.table), .string (strU x.e.a.name), .int .u8 (x.e.a.vk : Int), .int .i64 x.e.a.vi, .string (strU x.e.a.vs), .bool x.e.a.star, .slice a2 m c2, .string (strU x.aka), .bool x.star], .agg #[.int .u8 (x.e.a.kind : Int), .int .u8 (x.e.a.op : Int), .string (strU x.e.a.table), .string (strU x.e.a.name), .int .u8 (x.e.a.vk : Int), .int .i64 x.e.a.vi, .string (strU x.e.a.vs), .bool x.e.a.star, .slice b2 m d2, .string (strU x.aka), .bool x.star]] (bwOf wr z) fun e w' => e = .returned (.bool true) ∧ Below (bwOf wr z).heap.size (bwOf wr z) w' := fun z => by
        have hz := HB.out.trans ((bwOf_below wr z).mono HB.out.size)
        exact sameItem_one x a2 b2 m c2 d2 (bwOf wr z) (hsu.below hz) (hsv.below hz)
      have p0 : ∀ n : BW wr, (bwOf wr n).cell? ⟨g, i * 11, none⟩ = some (.int .u8 (x.e.a.kind : Int)) := bwOf_cell wr _ _ ((World.cell?_of_block (HB.out.block g hg)).trans (hrp 0 _ rfl))
      have p1 : ∀ n : BW wr, (bwOf wr n).cell? ⟨g, i * 11 + 1, none⟩ = some (.int .u8 (x.e.a.op : Int)) := bwOf_cell wr _ _ ((World.cell?_of_block (HB.out.block g hg)).trans (hrp 1 _ rfl))
      have p2 : ∀ n : BW wr, (bwOf wr n).cell? ⟨g, i * 11 + 2, none⟩ = some (.string (strU x.e.a.table)) := bwOf_cell wr _ _ ((World.cell?_of_block (HB.out.block g hg)).trans (hrp 2 _ rfl))
      have p3 : ∀ n : BW wr, (bwOf wr n).cell? ⟨g, i * 11 + 3, none⟩ = some (.string (strU x.e.a.name)) := bwOf_cell wr _ _ ((World.cell?_of_block (HB.out.block g hg)).trans (hrp 3 _ rfl))
      have p4 : ∀ n : BW wr, (bwOf wr n).cell? ⟨g, i * 11 + 4, none⟩ = some (.int .u8 (x.e.a.vk : Int)) := bwOf_cell wr _ _ ((World.cell?_of_block (HB.out.block g hg)).trans (hrp 4 _ rfl))
      have p5 : ∀ n : BW wr, (bwOf wr n).cell? ⟨g, i * 11 + 5, none⟩ = some (.int .i64 x.e.a.vi) := bwOf_cell wr _ _ ((World.cell?_of_block (HB.out.block g hg)).trans (hrp 5 _ rfl))
      have p6 : ∀ n : BW wr, (bwOf wr n).cell? ⟨g, i * 11 + 6, none⟩ = some (.string (strU x.e.a.vs)) := bwOf_cell wr _ _ ((World.cell?_of_block (HB.out.block g hg)).trans (hrp 6 _ rfl))
      have p7 : ∀ n : BW wr, (bwOf wr n).cell? ⟨g, i * 11 + 7, none⟩ = some (.bool x.e.a.star) := bwOf_cell wr _ _ ((World.cell?_of_block (HB.out.block g hg)).trans (hrp 7 _ rfl))
      have p8 : ∀ n : BW wr, (bwOf wr n).cell? ⟨g, i * 11 + 8, none⟩ = some (.slice a2 m c2) := bwOf_cell wr _ _ ((World.cell?_of_block (HB.out.block g hg)).trans (hrp 8 _ rfl))
      have p9 : ∀ n : BW wr, (bwOf wr n).cell? ⟨g, i * 11 + 9, none⟩ = some (.string (strU x.aka)) := bwOf_cell wr _ _ ((World.cell?_of_block (HB.out.block g hg)).trans (hrp 9 _ rfl))
      have p10 : ∀ n : BW wr, (bwOf wr n).cell? ⟨g, i * 11 + 10, none⟩ = some (.bool x.star) := bwOf_cell wr _ _ ((World.cell?_of_block (HB.out.block g hg)).trans (hrp 10 _ rfl))
      have q0 : ∀ n : BW wr, (bwOf wr n).cell? ⟨k, i * 11, none⟩ = some (.int .u8 (x.e.a.kind : Int)) := bwOf_cell wr _ _ ((World.cell?_of_block (HB.out.block k hk)).trans (hrq 0 _ rfl))
      have q1 : ∀ n : BW wr, (bwOf wr n).cell? ⟨k, i * 11 + 1, none⟩ = some (.int .u8 (x.e.a.op : Int)) := bwOf_cell wr _ _ ((World.cell?_of_block (HB.out.block k hk)).trans (hrq 1 _ rfl))
      have q2 : ∀ n : BW wr, (bwOf wr n).cell? ⟨k, i * 11 + 2, none⟩ = some (.string (strU x.e.a.table)) := bwOf_cell wr _ _ ((World.cell?_of_block (HB.out.block k hk)).trans (hrq 2 _ rfl))
      have q3 : ∀ n : BW wr, (bwOf wr n).cell? ⟨k, i * 11 + 3, none⟩ = some (.string (strU x.e.a.name)) := bwOf_cell wr _ _ ((World.cell?_of_block (HB.out.block k hk)).trans (hrq 3 _ rfl))
      have q4 : ∀ n : BW wr, (bwOf wr n).cell? ⟨k, i * 11 + 4, none⟩ = some (.int .u8 (x.e.a.vk : Int)) := bwOf_cell wr _ _ ((World.cell?_of_block (HB.out.block k hk)).trans (hrq 4 _ rfl))
      have q5 : ∀ n : BW wr, (bwOf wr n).cell? ⟨k, i * 11 + 5, none⟩ = some (.int .i64 x.e.a.vi) := bwOf_cell wr _ _ ((World.cell?_of_block (HB.out.block k hk)).trans (hrq 5 _ rfl))
      have q6 : ∀ n : BW wr, (bwOf wr n).cell? ⟨k, i * 11 + 6, none⟩ = some (.string (strU x.e.a.vs)) := bwOf_cell wr _ _ ((World.cell?_of_block (HB.out.block k hk)).trans (hrq 6 _ rfl))
      have q7 : ∀ n : BW wr, (bwOf wr n).cell? ⟨k, i * 11 + 7, none⟩ = some (.bool x.e.a.star) := bwOf_cell wr _ _ ((World.cell?_of_block (HB.out.block k hk)).trans (hrq 7 _ rfl))
      have q8 : ∀ n : BW wr, (bwOf wr n).cell? ⟨k, i * 11 + 8, none⟩ = some (.slice b2 m d2) := bwOf_cell wr _ _ ((World.cell?_of_block (HB.out.block k hk)).trans (hrq 8 _ rfl))
      have q9 : ∀ n : BW wr, (bwOf wr n).cell? ⟨k, i * 11 + 9, none⟩ = some (.string (strU x.aka)) := bwOf_cell wr _ _ ((World.cell?_of_block (HB.out.block k hk)).trans (hrq 9 _ rfl))
      have q10 : ∀ n : BW wr, (bwOf wr n).cell? ⟨k, i * 11 + 10, none⟩ = some (.bool x.star) := bwOf_cell wr _ _ ((World.cell?_of_block (HB.out.block k hk)).trans (hrq 10 _ rfl))
      clear hrp hrq hg hk hsu hsv hm
      go_wp2_with fail
      refine wp_region_bw (w := wr) (by kernel_rfl) (by kernel_rfl) ?_
      repeat (go_big_quiet_step (fail))
      go_big_quiet_step ((go_at_call 90; exact below_of (hC _)))
      repeat (go_big_quiet_step (fail))
      refine wpQuiet_nil ?_
      rintro w3 ⟨m3, rfl⟩
      have HB3 := Lib.hid (HB.out.trans ((bwOf_below wr m3).mono HB.out.size))
      go_wp2_with fail
      go_roundw
      case rel => exact ⟨i + 1, b ++ [x], rm, rfl, HD2, HB3⟩
      case measure => simp only [RowKit.intOf]; omega
set_option maxRecDepth 100000 in
set_option maxHeartbeats 8000000 in
theorem sameFroms_yes (l : List (FromM)) (u v : Value) (w : World) (hu : RowOf fromE (fun _ => True) w u l) (hv : RowOf fromE (fun _ => True) w v l) :
    Calls Tryz.prog 51 #[u, v] w fun e w' => e = .returned (.bool true) ∧ Below w.heap.size w w' := by
  obtain ⟨n, hn⟩ : ∃ n, l.length = n := ⟨_, rfl⟩
  by_cases h0 : l = []
  · subst h0
    obtain ⟨ao, c, rfl, _⟩ := hu.slice
    obtain ⟨bo, d, rfl, _⟩ := hv.slice
    clear hu hv hn
    show Calls Tryz.prog 51 #[.slice ao 0 c, .slice bo 0 d] w _
    go_enter Tryz.func51, Tryz.ntmps51
    go_wp2_with fail
    go_loopw [5] (fun iv wr => iv = .int .i64 0 ∧ wr = w) (fun iv _ => 0)
    case atStart => exact ⟨rfl, rfl⟩
    case round =>
      obtain ⟨rfl, rfl⟩ := hrel
      go_wp2_with fail
      go_ret
      exact ⟨rfl, Below.refl _ _⟩
  rcases hu with ⟨_, h⟩ | ⟨g, c, css, rfl, h2, h3, _, h4, h5, h6⟩
  · exact absurd h h0
  rcases hv with ⟨_, h⟩ | ⟨k, d, dss, rfl, g2, g3, _, g4, g5, g6⟩
  · exact absurd h h0
  have HU := Lib.hid (And.intro h4 (And.intro h5 h6))
  have HV := Lib.hid (And.intro g4 (And.intro g5 g6))
  have HN := Lib.hid hn
  rw [hn] at h2 g2 ⊢
  clear h0 h4 h5 h6 g4 g5 g6 hn
  go_enter Tryz.func51, Tryz.ntmps51
  go_wp2_with fail
  go_loopw [5] (fun iv wr => ∃ (i : Nat) (b rm : List (FromM)), iv = .int .i64 (i : Int) ∧ Hid (l = b ++ rm ∧ b.length = i) ∧ Hid (Below w.heap.size w wr)) (fun iv _ => n - (RowKit.intOf iv).toNat)
  case atStart => exact ⟨0, [], l, rfl, Lib.hid ⟨rfl, rfl⟩, Lib.hid (Below.refl _ _)⟩
  case round =>
    obtain ⟨i, b, rm, rfl, HD, HB⟩ := hrel
    cases rm with
    | nil =>
      have hge : ¬ i < n := by have h := HD.out; have h2 := HN.out; rw [h.1] at h2; simp at h2; omega
      go_wp2_with fail
      go_ret
      exact ⟨rfl, HB.out⟩
    | cons x rm =>
      have hlt : i < n := by have h := HD.out; have h2 := HN.out; rw [h.1] at h2; simp at h2; omega
      obtain ⟨cs, hx, hrp⟩ := row_at HU.out.2.1 HU.out.2.2 HD.out.1
      obtain ⟨ds, hy, hrq⟩ := row_at HV.out.2.1 HV.out.2.2 HD.out.1
      rw [HD.out.2] at hrp hrq
      have hg := HU.out.1
      have hk := HV.out.1
      have HD2 : Hid (l = (b ++ [x]) ++ rm ∧ (b ++ [x]).length = i + 1) := Lib.hid ⟨by rw [HD.out.1]; simp, by rw [List.length_append, HD.out.2]; rfl⟩
      obtain ⟨u2, rfl, hsu⟩ := hx
      obtain ⟨v2, rfl, hsv⟩ := hy
      obtain ⟨a2, c2, hu2, _⟩ := hsu.len
      obtain ⟨b2, d2, hv2, _⟩ := hsv.len
      obtain ⟨m, hm⟩ : ∃ m, x.on.l.len = m := ⟨_, rfl⟩
      rw [hm] at hu2 hv2
      subst hu2 hv2
      have hC : ∀ z : BW wr, Calls Tryz.prog 91 #[.agg #[.string (strU x.table), .string (strU x.aka), .int .u8 (x.on.a.kind : Int), .int .u8 (x.on.a.op : Int), .string (strU x.on.a.table), .string (strU x.on.a.name), .int .u8 (x.on.a.vk : Int), .int .i64 x.on.a.vi, .string (strU x.on.a.vs), .bool x.on.a.star, .slice a2 m c2], .agg #[.string (strU x.table), .string (strU x.aka), .int .u8 (x.on.a.kind : Int), .int .u8 (x.on.a.op : Int), .string (strU x.on.a.table), .string (strU x.on.a.name), .int .u8 (x.on.a.vk : Int), .int .i64 x.on.a.vi, .string (strU x.on.a.vs), .bool x.on.a.star, .slice b2 m d2]] (bwOf wr z) fun e w' => e = .returned (.bool true) ∧ Below (bwOf wr z).heap.size (bwOf wr z) w' := fun z => by
        have hz := HB.out.trans ((bwOf_below wr z).mono HB.out.size)
        exact sameFrom_one x a2 b2 m c2 d2 (bwOf wr z) (hsu.below hz) (hsv.below hz)
      have p0 : ∀ n : BW wr, (bwOf wr n).cell? ⟨g, i * 11, none⟩ = some (.string (strU x.table)) := bwOf_cell wr _ _ ((World.cell?_of_block (HB.out.block g hg)).trans (hrp 0 _ rfl))
      have p1 : ∀ n : BW wr, (bwOf wr n).cell? ⟨g, i * 11 + 1, none⟩ = some (.string (strU x.aka)) := bwOf_cell wr _ _ ((World.cell?_of_block (HB.out.block g hg)).trans (hrp 1 _ rfl))
      have p2 : ∀ n : BW wr, (bwOf wr n).cell? ⟨g, i * 11 + 2, none⟩ = some (.int .u8 (x.on.a.kind : Int)) := bwOf_cell wr _ _ ((World.cell?_of_block (HB.out.block g hg)).trans (hrp 2 _ rfl))
      have p3 : ∀ n : BW wr, (bwOf wr n).cell? ⟨g, i * 11 + 3, none⟩ = some (.int .u8 (x.on.a.op : Int)) := bwOf_cell wr _ _ ((World.cell?_of_block (HB.out.block g hg)).trans (hrp 3 _ rfl))
      have p4 : ∀ n : BW wr, (bwOf wr n).cell? ⟨g, i * 11 + 4, none⟩ = some (.string (strU x.on.a.table)) := bwOf_cell wr _ _ ((World.cell?_of_block (HB.out.block g hg)).trans (hrp 4 _ rfl))
      have p5 : ∀ n : BW wr, (bwOf wr n).cell? ⟨g, i * 11 + 5, none⟩ = some (.string (strU x.on.a.name)) := bwOf_cell wr _ _ ((World.cell?_of_block (HB.out.block g hg)).trans (hrp 5 _ rfl))
      have p6 : ∀ n : BW wr, (bwOf wr n).cell? ⟨g, i * 11 + 6, none⟩ = some (.int .u8 (x.on.a.vk : Int)) := bwOf_cell wr _ _ ((World.cell?_of_block (HB.out.block g hg)).trans (hrp 6 _ rfl))
      have p7 : ∀ n : BW wr, (bwOf wr n).cell? ⟨g, i * 11 + 7, none⟩ = some (.int .i64 x.on.a.vi) := bwOf_cell wr _ _ ((World.cell?_of_block (HB.out.block g hg)).trans (hrp 7 _ rfl))
      have p8 : ∀ n : BW wr, (bwOf wr n).cell? ⟨g, i * 11 + 8, none⟩ = some (.string (strU x.on.a.vs)) := bwOf_cell wr _ _ ((World.cell?_of_block (HB.out.block g hg)).trans (hrp 8 _ rfl))
      have p9 : ∀ n : BW wr, (bwOf wr n).cell? ⟨g, i * 11 + 9, none⟩ = some (.bool x.on.a.star) := bwOf_cell wr _ _ ((World.cell?_of_block (HB.out.block g hg)).trans (hrp 9 _ rfl))
      have p10 : ∀ n : BW wr, (bwOf wr n).cell? ⟨g, i * 11 + 10, none⟩ = some (.slice a2 m c2) := bwOf_cell wr _ _ ((World.cell?_of_block (HB.out.block g hg)).trans (hrp 10 _ rfl))
      have q0 : ∀ n : BW wr, (bwOf wr n).cell? ⟨k, i * 11, none⟩ = some (.string (strU x.table)) := bwOf_cell wr _ _ ((World.cell?_of_block (HB.out.block k hk)).trans (hrq 0 _ rfl))
      have q1 : ∀ n : BW wr, (bwOf wr n).cell? ⟨k, i * 11 + 1, none⟩ = some (.string (strU x.aka)) := bwOf_cell wr _ _ ((World.cell?_of_block (HB.out.block k hk)).trans (hrq 1 _ rfl))
      have q2 : ∀ n : BW wr, (bwOf wr n).cell? ⟨k, i * 11 + 2, none⟩ = some (.int .u8 (x.on.a.kind : Int)) := bwOf_cell wr _ _ ((World.cell?_of_block (HB.out.block k hk)).trans (hrq 2 _ rfl))
      have q3 : ∀ n : BW wr, (bwOf wr n).cell? ⟨k, i * 11 + 3, none⟩ = some (.int .u8 (x.on.a.op : Int)) := bwOf_cell wr _ _ ((World.cell?_of_block (HB.out.block k hk)).trans (hrq 3 _ rfl))
      have q4 : ∀ n : BW wr, (bwOf wr n).cell? ⟨k, i * 11 + 4, none⟩ = some (.string (strU x.on.a.table)) := bwOf_cell wr _ _ ((World.cell?_of_block (HB.out.block k hk)).trans (hrq 4 _ rfl))
      have q5 : ∀ n : BW wr, (bwOf wr n).cell? ⟨k, i * 11 + 5, none⟩ = some (.string (strU x.on.a.name)) := bwOf_cell wr _ _ ((World.cell?_of_block (HB.out.block k hk)).trans (hrq 5 _ rfl))
      have q6 : ∀ n : BW wr, (bwOf wr n).cell? ⟨k, i * 11 + 6, none⟩ = some (.int .u8 (x.on.a.vk : Int)) := bwOf_cell wr _ _ ((World.cell?_of_block (HB.out.block k hk)).trans (hrq 6 _ rfl))
      have q7 : ∀ n : BW wr, (bwOf wr n).cell? ⟨k, i * 11 + 7, none⟩ = some (.int .i64 x.on.a.vi) := bwOf_cell wr _ _ ((World.cell?_of_block (HB.out.block k hk)).trans (hrq 7 _ rfl))
      have q8 : ∀ n : BW wr, (bwOf wr n).cell? ⟨k, i * 11 + 8, none⟩ = some (.string (strU x.on.a.vs)) := bwOf_cell wr _ _ ((World.cell?_of_block (HB.out.block k hk)).trans (hrq 8 _ rfl))
      have q9 : ∀ n : BW wr, (bwOf wr n).cell? ⟨k, i * 11 + 9, none⟩ = some (.bool x.on.a.star) := bwOf_cell wr _ _ ((World.cell?_of_block (HB.out.block k hk)).trans (hrq 9 _ rfl))
      have q10 : ∀ n : BW wr, (bwOf wr n).cell? ⟨k, i * 11 + 10, none⟩ = some (.slice b2 m d2) := bwOf_cell wr _ _ ((World.cell?_of_block (HB.out.block k hk)).trans (hrq 10 _ rfl))
      clear hrp hrq hg hk hsu hsv hm
      go_wp2_with fail
      refine wp_region_bw (w := wr) (by kernel_rfl) (by kernel_rfl) ?_
      repeat (go_big_quiet_step (fail))
      go_big_quiet_step ((go_at_call 91; exact below_of (hC _)))
      repeat (go_big_quiet_step (fail))
      refine wpQuiet_nil ?_
      rintro w3 ⟨m3, rfl⟩
      have HB3 := Lib.hid (HB.out.trans ((bwOf_below wr m3).mono HB.out.size))
      go_wp2_with fail
      go_roundw
      case rel => exact ⟨i + 1, b ++ [x], rm, rfl, HD2, HB3⟩
      case measure => simp only [RowKit.intOf]; omega
set_option maxRecDepth 100000 in
set_option maxHeartbeats 8000000 in
theorem sameOrders_yes (l : List (OrderM)) (u v : Value) (w : World) (hu : RowOf orderE (fun _ => True) w u l) (hv : RowOf orderE (fun _ => True) w v l) :
    Calls Tryz.prog 52 #[u, v] w fun e w' => e = .returned (.bool true) ∧ Below w.heap.size w w' := by
  obtain ⟨n, hn⟩ : ∃ n, l.length = n := ⟨_, rfl⟩
  by_cases h0 : l = []
  · subst h0
    obtain ⟨ao, c, rfl, _⟩ := hu.slice
    obtain ⟨bo, d, rfl, _⟩ := hv.slice
    clear hu hv hn
    show Calls Tryz.prog 52 #[.slice ao 0 c, .slice bo 0 d] w _
    go_enter Tryz.func52, Tryz.ntmps52
    go_wp2_with fail
    go_loopw [5] (fun iv wr => iv = .int .i64 0 ∧ wr = w) (fun iv _ => 0)
    case atStart => exact ⟨rfl, rfl⟩
    case round =>
      obtain ⟨rfl, rfl⟩ := hrel
      go_wp2_with fail
      go_ret
      exact ⟨rfl, Below.refl _ _⟩
  rcases hu with ⟨_, h⟩ | ⟨g, c, css, rfl, h2, h3, _, h4, h5, h6⟩
  · exact absurd h h0
  rcases hv with ⟨_, h⟩ | ⟨k, d, dss, rfl, g2, g3, _, g4, g5, g6⟩
  · exact absurd h h0
  have HU := Lib.hid (And.intro h4 (And.intro h5 h6))
  have HV := Lib.hid (And.intro g4 (And.intro g5 g6))
  have HN := Lib.hid hn
  rw [hn] at h2 g2 ⊢
  clear h0 h4 h5 h6 g4 g5 g6 hn
  go_enter Tryz.func52, Tryz.ntmps52
  go_wp2_with fail
  go_loopw [5] (fun iv wr => ∃ (i : Nat) (b rm : List (OrderM)), iv = .int .i64 (i : Int) ∧ Hid (l = b ++ rm ∧ b.length = i) ∧ Hid (Below w.heap.size w wr)) (fun iv _ => n - (RowKit.intOf iv).toNat)
  case atStart => exact ⟨0, [], l, rfl, Lib.hid ⟨rfl, rfl⟩, Lib.hid (Below.refl _ _)⟩
  case round =>
    obtain ⟨i, b, rm, rfl, HD, HB⟩ := hrel
    cases rm with
    | nil =>
      have hge : ¬ i < n := by have h := HD.out; have h2 := HN.out; rw [h.1] at h2; simp at h2; omega
      go_wp2_with fail
      go_ret
      exact ⟨rfl, HB.out⟩
    | cons x rm =>
      have hlt : i < n := by have h := HD.out; have h2 := HN.out; rw [h.1] at h2; simp at h2; omega
      obtain ⟨cs, hx, hrp⟩ := row_at HU.out.2.1 HU.out.2.2 HD.out.1
      obtain ⟨ds, hy, hrq⟩ := row_at HV.out.2.1 HV.out.2.2 HD.out.1
      rw [HD.out.2] at hrp hrq
      have hg := HU.out.1
      have hk := HV.out.1
      have HD2 : Hid (l = (b ++ [x]) ++ rm ∧ (b ++ [x]).length = i + 1) := Lib.hid ⟨by rw [HD.out.1]; simp, by rw [List.length_append, HD.out.2]; rfl⟩
      obtain ⟨u2, rfl, hsu⟩ := hx
      obtain ⟨v2, rfl, hsv⟩ := hy
      obtain ⟨a2, c2, hu2, _⟩ := hsu.len
      obtain ⟨b2, d2, hv2, _⟩ := hsv.len
      obtain ⟨m, hm⟩ : ∃ m, x.e.l.len = m := ⟨_, rfl⟩
      rw [hm] at hu2 hv2
      subst hu2 hv2
      have hC : ∀ z : BW wr, Calls Tryz.prog 92 #[.agg #[.int .u8 (x.e.a.kind : Int), .int .u8 (x.e.a.op : Int), .string (strU x.e.a.table), .string (strU x.e.a.name), .int .u8 (x.e.a.vk : Int), .int .i64 x.e.a.vi, .string (strU x.e.a.vs), .bool x.e.a.star, .slice a2 m c2, .bool x.down], .agg #[.int .u8 (x.e.a.kind : Int), .int .u8 (x.e.a.op : Int), .string (strU x.e.a.table), .string (strU x.e.a.name), .int .u8 (x.e.a.vk : Int), .int .i64 x.e.a.vi, .string (strU x.e.a.vs), .bool x.e.a.star, .slice b2 m d2, .bool x.down]] (bwOf wr z) fun e w' => e = .returned (.bool true) ∧ Below (bwOf wr z).heap.size (bwOf wr z) w' := fun z => by
        have hz := HB.out.trans ((bwOf_below wr z).mono HB.out.size)
        exact sameOrder_one x a2 b2 m c2 d2 (bwOf wr z) (hsu.below hz) (hsv.below hz)
      have p0 : ∀ n : BW wr, (bwOf wr n).cell? ⟨g, i * 10, none⟩ = some (.int .u8 (x.e.a.kind : Int)) := bwOf_cell wr _ _ ((World.cell?_of_block (HB.out.block g hg)).trans (hrp 0 _ rfl))
      have p1 : ∀ n : BW wr, (bwOf wr n).cell? ⟨g, i * 10 + 1, none⟩ = some (.int .u8 (x.e.a.op : Int)) := bwOf_cell wr _ _ ((World.cell?_of_block (HB.out.block g hg)).trans (hrp 1 _ rfl))
      have p2 : ∀ n : BW wr, (bwOf wr n).cell? ⟨g, i * 10 + 2, none⟩ = some (.string (strU x.e.a.table)) := bwOf_cell wr _ _ ((World.cell?_of_block (HB.out.block g hg)).trans (hrp 2 _ rfl))
      have p3 : ∀ n : BW wr, (bwOf wr n).cell? ⟨g, i * 10 + 3, none⟩ = some (.string (strU x.e.a.name)) := bwOf_cell wr _ _ ((World.cell?_of_block (HB.out.block g hg)).trans (hrp 3 _ rfl))
      have p4 : ∀ n : BW wr, (bwOf wr n).cell? ⟨g, i * 10 + 4, none⟩ = some (.int .u8 (x.e.a.vk : Int)) := bwOf_cell wr _ _ ((World.cell?_of_block (HB.out.block g hg)).trans (hrp 4 _ rfl))
      have p5 : ∀ n : BW wr, (bwOf wr n).cell? ⟨g, i * 10 + 5, none⟩ = some (.int .i64 x.e.a.vi) := bwOf_cell wr _ _ ((World.cell?_of_block (HB.out.block g hg)).trans (hrp 5 _ rfl))
      have p6 : ∀ n : BW wr, (bwOf wr n).cell? ⟨g, i * 10 + 6, none⟩ = some (.string (strU x.e.a.vs)) := bwOf_cell wr _ _ ((World.cell?_of_block (HB.out.block g hg)).trans (hrp 6 _ rfl))
      have p7 : ∀ n : BW wr, (bwOf wr n).cell? ⟨g, i * 10 + 7, none⟩ = some (.bool x.e.a.star) := bwOf_cell wr _ _ ((World.cell?_of_block (HB.out.block g hg)).trans (hrp 7 _ rfl))
      have p8 : ∀ n : BW wr, (bwOf wr n).cell? ⟨g, i * 10 + 8, none⟩ = some (.slice a2 m c2) := bwOf_cell wr _ _ ((World.cell?_of_block (HB.out.block g hg)).trans (hrp 8 _ rfl))
      have p9 : ∀ n : BW wr, (bwOf wr n).cell? ⟨g, i * 10 + 9, none⟩ = some (.bool x.down) := bwOf_cell wr _ _ ((World.cell?_of_block (HB.out.block g hg)).trans (hrp 9 _ rfl))
      have q0 : ∀ n : BW wr, (bwOf wr n).cell? ⟨k, i * 10, none⟩ = some (.int .u8 (x.e.a.kind : Int)) := bwOf_cell wr _ _ ((World.cell?_of_block (HB.out.block k hk)).trans (hrq 0 _ rfl))
      have q1 : ∀ n : BW wr, (bwOf wr n).cell? ⟨k, i * 10 + 1, none⟩ = some (.int .u8 (x.e.a.op : Int)) := bwOf_cell wr _ _ ((World.cell?_of_block (HB.out.block k hk)).trans (hrq 1 _ rfl))
      have q2 : ∀ n : BW wr, (bwOf wr n).cell? ⟨k, i * 10 + 2, none⟩ = some (.string (strU x.e.a.table)) := bwOf_cell wr _ _ ((World.cell?_of_block (HB.out.block k hk)).trans (hrq 2 _ rfl))
      have q3 : ∀ n : BW wr, (bwOf wr n).cell? ⟨k, i * 10 + 3, none⟩ = some (.string (strU x.e.a.name)) := bwOf_cell wr _ _ ((World.cell?_of_block (HB.out.block k hk)).trans (hrq 3 _ rfl))
      have q4 : ∀ n : BW wr, (bwOf wr n).cell? ⟨k, i * 10 + 4, none⟩ = some (.int .u8 (x.e.a.vk : Int)) := bwOf_cell wr _ _ ((World.cell?_of_block (HB.out.block k hk)).trans (hrq 4 _ rfl))
      have q5 : ∀ n : BW wr, (bwOf wr n).cell? ⟨k, i * 10 + 5, none⟩ = some (.int .i64 x.e.a.vi) := bwOf_cell wr _ _ ((World.cell?_of_block (HB.out.block k hk)).trans (hrq 5 _ rfl))
      have q6 : ∀ n : BW wr, (bwOf wr n).cell? ⟨k, i * 10 + 6, none⟩ = some (.string (strU x.e.a.vs)) := bwOf_cell wr _ _ ((World.cell?_of_block (HB.out.block k hk)).trans (hrq 6 _ rfl))
      have q7 : ∀ n : BW wr, (bwOf wr n).cell? ⟨k, i * 10 + 7, none⟩ = some (.bool x.e.a.star) := bwOf_cell wr _ _ ((World.cell?_of_block (HB.out.block k hk)).trans (hrq 7 _ rfl))
      have q8 : ∀ n : BW wr, (bwOf wr n).cell? ⟨k, i * 10 + 8, none⟩ = some (.slice b2 m d2) := bwOf_cell wr _ _ ((World.cell?_of_block (HB.out.block k hk)).trans (hrq 8 _ rfl))
      have q9 : ∀ n : BW wr, (bwOf wr n).cell? ⟨k, i * 10 + 9, none⟩ = some (.bool x.down) := bwOf_cell wr _ _ ((World.cell?_of_block (HB.out.block k hk)).trans (hrq 9 _ rfl))
      clear hrp hrq hg hk hsu hsv hm
      go_wp2_with fail
      refine wp_region_bw (w := wr) (by kernel_rfl) (by kernel_rfl) ?_
      repeat (go_big_quiet_step (fail))
      go_big_quiet_step ((go_at_call 92; exact below_of (hC _)))
      repeat (go_big_quiet_step (fail))
      refine wpQuiet_nil ?_
      rintro w3 ⟨m3, rfl⟩
      have HB3 := Lib.hid (HB.out.trans ((bwOf_below wr m3).mono HB.out.size))
      go_wp2_with fail
      go_roundw
      case rel => exact ⟨i + 1, b ++ [x], rm, rfl, HD2, HB3⟩
      case measure => simp only [RowKit.intOf]; omega
set_option maxRecDepth 100000 in
set_option maxHeartbeats 8000000 in
theorem sameColumns_yes (l : List (ColM)) (u v : Value) (w : World) (hu : RowOf colE' (fun _ => True) w u l) (hv : RowOf colE' (fun _ => True) w v l) :
    Calls Tryz.prog 47 #[u, v] w fun e w' => e = .returned (.bool true) ∧ Below w.heap.size w w' := by
  obtain ⟨n, hn⟩ : ∃ n, l.length = n := ⟨_, rfl⟩
  by_cases h0 : l = []
  · subst h0
    obtain ⟨ao, c, rfl, _⟩ := hu.slice
    obtain ⟨bo, d, rfl, _⟩ := hv.slice
    clear hu hv hn
    show Calls Tryz.prog 47 #[.slice ao 0 c, .slice bo 0 d] w _
    go_enter Tryz.func47, Tryz.ntmps47
    go_wp2_with fail
    go_loopw [5] (fun iv wr => iv = .int .i64 0 ∧ wr = w) (fun iv _ => 0)
    case atStart => exact ⟨rfl, rfl⟩
    case round =>
      obtain ⟨rfl, rfl⟩ := hrel
      go_wp2_with fail
      go_ret
      exact ⟨rfl, Below.refl _ _⟩
  rcases hu with ⟨_, h⟩ | ⟨g, c, css, rfl, h2, h3, _, h4, h5, h6⟩
  · exact absurd h h0
  rcases hv with ⟨_, h⟩ | ⟨k, d, dss, rfl, g2, g3, _, g4, g5, g6⟩
  · exact absurd h h0
  have HU := Lib.hid (And.intro h4 (And.intro h5 h6))
  have HV := Lib.hid (And.intro g4 (And.intro g5 g6))
  have HN := Lib.hid hn
  rw [hn] at h2 g2 ⊢
  clear h0 h4 h5 h6 g4 g5 g6 hn
  go_enter Tryz.func47, Tryz.ntmps47
  go_wp2_with fail
  go_loopw [5] (fun iv wr => ∃ (i : Nat) (b rm : List (ColM)), iv = .int .i64 (i : Int) ∧ Hid (l = b ++ rm ∧ b.length = i) ∧ Hid (Below w.heap.size w wr)) (fun iv _ => n - (RowKit.intOf iv).toNat)
  case atStart => exact ⟨0, [], l, rfl, Lib.hid ⟨rfl, rfl⟩, Lib.hid (Below.refl _ _)⟩
  case round =>
    obtain ⟨i, b, rm, rfl, HD, HB⟩ := hrel
    cases rm with
    | nil =>
      have hge : ¬ i < n := by have h := HD.out; have h2 := HN.out; rw [h.1] at h2; simp at h2; omega
      go_wp2_with fail
      go_ret
      exact ⟨rfl, HB.out⟩
    | cons x rm =>
      have hlt : i < n := by have h := HD.out; have h2 := HN.out; rw [h.1] at h2; simp at h2; omega
      obtain ⟨cs, hx, hrp⟩ := row_at HU.out.2.1 HU.out.2.2 HD.out.1
      obtain ⟨ds, hy, hrq⟩ := row_at HV.out.2.1 HV.out.2.2 HD.out.1
      rw [HD.out.2] at hrp hrq
      have hg := HU.out.1
      have hk := HV.out.1
      have HD2 : Hid (l = (b ++ [x]) ++ rm ∧ (b ++ [x]).length = i + 1) := Lib.hid ⟨by rw [HD.out.1]; simp, by rw [List.length_append, HD.out.2]; rfl⟩
      have e1 : cs = [.string (strU x.name), .int .u8 (x.type : Int), .bool x.primary, .bool x.unique, .bool x.notNull] := hx
      have e2 : ds = [.string (strU x.name), .int .u8 (x.type : Int), .bool x.primary, .bool x.unique, .bool x.notNull] := hy
      subst e1 e2
      have p0 : ∀ n : BW wr, (bwOf wr n).cell? ⟨g, i * 5, none⟩ = some (.string (strU x.name)) := bwOf_cell wr _ _ ((World.cell?_of_block (HB.out.block g hg)).trans (hrp 0 _ rfl))
      have p1 : ∀ n : BW wr, (bwOf wr n).cell? ⟨g, i * 5 + 1, none⟩ = some (.int .u8 (x.type : Int)) := bwOf_cell wr _ _ ((World.cell?_of_block (HB.out.block g hg)).trans (hrp 1 _ rfl))
      have p2 : ∀ n : BW wr, (bwOf wr n).cell? ⟨g, i * 5 + 2, none⟩ = some (.bool x.primary) := bwOf_cell wr _ _ ((World.cell?_of_block (HB.out.block g hg)).trans (hrp 2 _ rfl))
      have p3 : ∀ n : BW wr, (bwOf wr n).cell? ⟨g, i * 5 + 3, none⟩ = some (.bool x.unique) := bwOf_cell wr _ _ ((World.cell?_of_block (HB.out.block g hg)).trans (hrp 3 _ rfl))
      have p4 : ∀ n : BW wr, (bwOf wr n).cell? ⟨g, i * 5 + 4, none⟩ = some (.bool x.notNull) := bwOf_cell wr _ _ ((World.cell?_of_block (HB.out.block g hg)).trans (hrp 4 _ rfl))
      have q0 : ∀ n : BW wr, (bwOf wr n).cell? ⟨k, i * 5, none⟩ = some (.string (strU x.name)) := bwOf_cell wr _ _ ((World.cell?_of_block (HB.out.block k hk)).trans (hrq 0 _ rfl))
      have q1 : ∀ n : BW wr, (bwOf wr n).cell? ⟨k, i * 5 + 1, none⟩ = some (.int .u8 (x.type : Int)) := bwOf_cell wr _ _ ((World.cell?_of_block (HB.out.block k hk)).trans (hrq 1 _ rfl))
      have q2 : ∀ n : BW wr, (bwOf wr n).cell? ⟨k, i * 5 + 2, none⟩ = some (.bool x.primary) := bwOf_cell wr _ _ ((World.cell?_of_block (HB.out.block k hk)).trans (hrq 2 _ rfl))
      have q3 : ∀ n : BW wr, (bwOf wr n).cell? ⟨k, i * 5 + 3, none⟩ = some (.bool x.unique) := bwOf_cell wr _ _ ((World.cell?_of_block (HB.out.block k hk)).trans (hrq 3 _ rfl))
      have q4 : ∀ n : BW wr, (bwOf wr n).cell? ⟨k, i * 5 + 4, none⟩ = some (.bool x.notNull) := bwOf_cell wr _ _ ((World.cell?_of_block (HB.out.block k hk)).trans (hrq 4 _ rfl))
      clear hrp hrq hg hk hx hy
      go_wp2_with fail
      refine wp_region_bw (w := wr) (by kernel_rfl) (by kernel_rfl) ?_
      repeat (go_big_quiet_step (fail))
      refine wpQuiet_nil ?_
      rintro w3 ⟨m3, rfl⟩
      have HB3 := Lib.hid (HB.out.trans ((bwOf_below wr m3).mono HB.out.size))
      go_wp2_with fail
      go_roundw
      case rel => exact ⟨i + 1, b ++ [x], rm, rfl, HD2, HB3⟩
      case measure => simp only [RowKit.intOf]; omega
set_option maxRecDepth 100000 in
set_option maxHeartbeats 16000000 in
theorem sameStmt_raw (x : StM) (a1 b1 : Option Addr) (n1 c1 d1 : Nat) (a2 b2 : Option Addr) (n2 c2 d2 : Nat) (a3 b3 : Option Addr) (n3 c3 d3 : Nat) (a4 b4 : Option Addr) (n4 c4 d4 : Nat) (a5 b5 : Option Addr) (n5 c5 d5 : Nat) (a6 b6 : Option Addr) (n6 c6 d6 : Nat) (a7 b7 : Option Addr) (n7 c7 d7 : Nat) (a8 b8 : Option Addr) (n8 c8 d8 : Nat) (a9 b9 : Option Addr) (n9 c9 d9 : Nat) (w : World) (h1 : StHeld (fun _ => True) w x (.slice a1 n1 c1) (.slice a2 n2 c2) (.slice a3 n3 c3) (.slice a4 n4 c4) (.slice a5 n5 c5) (.slice a6 n6 c6) (.slice a7 n7 c7) (.slice a8 n8 c8) (.slice a9 n9 c9)) (h2 : StHeld (fun _ => True) w x (.slice b1 n1 d1) (.slice b2 n2 d2) (.slice b3 n3 d3) (.slice b4 n4 d4) (.slice b5 n5 d5) (.slice b6 n6 d6) (.slice b7 n7 d7) (.slice b8 n8 d8) (.slice b9 n9 d9)) :
    Calls Tryz.prog 25 #[.agg (xA x a1 n1 c1 a2 n2 c2 a3 n3 c3 a4 n4 c4 a5 n5 c5 a6 n6 c6 a7 n7 c7 a8 n8 c8 a9 n9 c9), .agg (xA x b1 n1 d1 b2 n2 d2 b3 n3 d3 b4 n4 d4 b5 n5 d5 b6 n6 d6 b7 n7 d7 b8 n8 d8 b9 n9 d9)] w fun e w' => e = .returned (.bool true) ∧ Below w.heap.size w w' := by
  have HH1 := Lib.hid h1
  have HH2 := Lib.hid h2
  have HB0 : Hid (Below w.heap.size w ((w.alloc (.cells (xA x a1 n1 c1 a2 n2 c2 a3 n3 c3 a4 n4 c4 a5 n5 c5 a6 n6 c6 a7 n7 c7 a8 n8 c8 a9 n9 c9) 39)).alloc (.cells (xA x b1 n1 d1 b2 n2 d2 b3 n3 d3 b4 n4 d4 b5 n5 d5 b6 n6 d6 b7 n7 d7 b8 n8 d8 b9 n9 d9) 39))) := Lib.hid ((below_alloc _ _).trans ((below_alloc _ _).mono (by simp)))
  have HX0 : Hid (((w.alloc (.cells (xA x a1 n1 c1 a2 n2 c2 a3 n3 c3 a4 n4 c4 a5 n5 c5 a6 n6 c6 a7 n7 c7 a8 n8 c8 a9 n9 c9) 39)).alloc (.cells (xA x b1 n1 d1 b2 n2 d2 b3 n3 d3 b4 n4 d4 b5 n5 d5 b6 n6 d6 b7 n7 d7 b8 n8 d8 b9 n9 d9) 39)).heap[w.heap.size]? = some (.cells (xA x a1 n1 c1 a2 n2 c2 a3 n3 c3 a4 n4 c4 a5 n5 c5 a6 n6 c6 a7 n7 c7 a8 n8 c8 a9 n9 c9) 39 (0, 0))) := Lib.hid (heap_alloc2_old _ _ _)
  have HY0 : Hid (((w.alloc (.cells (xA x a1 n1 c1 a2 n2 c2 a3 n3 c3 a4 n4 c4 a5 n5 c5 a6 n6 c6 a7 n7 c7 a8 n8 c8 a9 n9 c9) 39)).alloc (.cells (xA x b1 n1 d1 b2 n2 d2 b3 n3 d3 b4 n4 d4 b5 n5 d5 b6 n6 d6 b7 n7 d7 b8 n8 d8 b9 n9 d9) 39)).heap[w.heap.size + 1]? = some (.cells (xA x b1 n1 d1 b2 n2 d2 b3 n3 d3 b4 n4 d4 b5 n5 d5 b6 n6 d6 b7 n7 d7 b8 n8 d8 b9 n9 d9) 39 (0, 0))) := Lib.hid (heap_alloc2_new _ _ _)
  clear h1 h2
  go_enter Tryz.func25, Tryz.ntmps25
  have hC := sameColumns_yes x.columns (.slice a1 n1 c1) (.slice b1 n1 d1) ((w.alloc (.cells (xA x a1 n1 c1 a2 n2 c2 a3 n3 c3 a4 n4 c4 a5 n5 c5 a6 n6 c6 a7 n7 c7 a8 n8 c8 a9 n9 c9) 39)).alloc (.cells (xA x b1 n1 d1 b2 n2 d2 b3 n3 d3 b4 n4 d4 b5 n5 d5 b6 n6 d6 b7 n7 d7 b8 n8 d8 b9 n9 d9) 39)) ((HH1.out.kept HB0.out.size (fun k _ hk => HB0.out.block k hk)).hc) ((HH2.out.kept HB0.out.size (fun k _ hk => HB0.out.block k hk)).hc)
  go_wp2_with fail
  refine hC.mono ?_
  rintro e w1 ⟨rfl, hb⟩
  have HB1 := Lib.hid (HB0.out.trans (hb.mono HB0.out.size))
  have HX1 : Hid (w1.heap[w.heap.size]? = some (.cells (xA x a1 n1 c1 a2 n2 c2 a3 n3 c3 a4 n4 c4 a5 n5 c5 a6 n6 c6 a7 n7 c7 a8 n8 c8 a9 n9 c9) 39 (0, 0))) := Lib.hid ((hb.block _ (bk_lt HX0.out)).trans HX0.out)
  have HY1 : Hid (w1.heap[w.heap.size + 1]? = some (.cells (xA x b1 n1 d1 b2 n2 d2 b3 n3 d3 b4 n4 d4 b5 n5 d5 b6 n6 d6 b7 n7 d7 b8 n8 d8 b9 n9 d9) 39 (0, 0))) := Lib.hid ((hb.block _ (bk_lt HY0.out)).trans HY0.out)
  clear hb hC HX0 HY0
  have hC := sameTexts_yes x.names (.slice a2 n2 c2) (.slice b2 n2 d2) w1 ((HH1.out.kept HB1.out.size (fun k _ hk => HB1.out.block k hk)).hn) ((HH2.out.kept HB1.out.size (fun k _ hk => HB1.out.block k hk)).hn)
  have p4 := bk_cell HX1.out 4
  have q4 := bk_cell HY1.out 4
  go_wp2_with fail
  refine hC.mono ?_
  rintro e w2 ⟨rfl, hb⟩
  have HB2 := Lib.hid (HB1.out.trans (hb.mono HB1.out.size))
  have HX2 : Hid (w2.heap[w.heap.size]? = some (.cells (xA x a1 n1 c1 a2 n2 c2 a3 n3 c3 a4 n4 c4 a5 n5 c5 a6 n6 c6 a7 n7 c7 a8 n8 c8 a9 n9 c9) 39 (0, 0))) := Lib.hid ((hb.block _ (bk_lt HX1.out)).trans HX1.out)
  have HY2 : Hid (w2.heap[w.heap.size + 1]? = some (.cells (xA x b1 n1 d1 b2 n2 d2 b3 n3 d3 b4 n4 d4 b5 n5 d5 b6 n6 d6 b7 n7 d7 b8 n8 d8 b9 n9 d9) 39 (0, 0))) := Lib.hid ((hb.block _ (bk_lt HY1.out)).trans HY1.out)
  clear hb hC HX1 HY1 p4 q4
  have hC := sameHeaps_yes x.rows (.slice a3 n3 c3) (.slice b3 n3 d3) w2 ((HH1.out.kept HB2.out.size (fun k _ hk => HB2.out.block k hk)).hr) ((HH2.out.kept HB2.out.size (fun k _ hk => HB2.out.block k hk)).hr)
  have p5 := bk_cell HX2.out 5
  have q5 := bk_cell HY2.out 5
  go_wp2_with fail
  refine hC.mono ?_
  rintro e w3 ⟨rfl, hb⟩
  have HB3 := Lib.hid (HB2.out.trans (hb.mono HB2.out.size))
  have HX3 : Hid (w3.heap[w.heap.size]? = some (.cells (xA x a1 n1 c1 a2 n2 c2 a3 n3 c3 a4 n4 c4 a5 n5 c5 a6 n6 c6 a7 n7 c7 a8 n8 c8 a9 n9 c9) 39 (0, 0))) := Lib.hid ((hb.block _ (bk_lt HX2.out)).trans HX2.out)
  have HY3 : Hid (w3.heap[w.heap.size + 1]? = some (.cells (xA x b1 n1 d1 b2 n2 d2 b3 n3 d3 b4 n4 d4 b5 n5 d5 b6 n6 d6 b7 n7 d7 b8 n8 d8 b9 n9 d9) 39 (0, 0))) := Lib.hid ((hb.block _ (bk_lt HY2.out)).trans HY2.out)
  clear hb hC HX2 HY2 p5 q5
  have hC := sameItems_yes x.items (.slice a4 n4 c4) (.slice b4 n4 d4) w3 ((HH1.out.kept HB3.out.size (fun k _ hk => HB3.out.block k hk)).hi) ((HH2.out.kept HB3.out.size (fun k _ hk => HB3.out.block k hk)).hi)
  have p6 := bk_cell HX3.out 6
  have q6 := bk_cell HY3.out 6
  go_wp2_with fail
  refine hC.mono ?_
  rintro e w4 ⟨rfl, hb⟩
  have HB4 := Lib.hid (HB3.out.trans (hb.mono HB3.out.size))
  have HX4 : Hid (w4.heap[w.heap.size]? = some (.cells (xA x a1 n1 c1 a2 n2 c2 a3 n3 c3 a4 n4 c4 a5 n5 c5 a6 n6 c6 a7 n7 c7 a8 n8 c8 a9 n9 c9) 39 (0, 0))) := Lib.hid ((hb.block _ (bk_lt HX3.out)).trans HX3.out)
  have HY4 : Hid (w4.heap[w.heap.size + 1]? = some (.cells (xA x b1 n1 d1 b2 n2 d2 b3 n3 d3 b4 n4 d4 b5 n5 d5 b6 n6 d6 b7 n7 d7 b8 n8 d8 b9 n9 d9) 39 (0, 0))) := Lib.hid ((hb.block _ (bk_lt HY3.out)).trans HY3.out)
  clear hb hC HX3 HY3 p6 q6
  have hC := sameFroms_yes x.tables (.slice a5 n5 c5) (.slice b5 n5 d5) w4 ((HH1.out.kept HB4.out.size (fun k _ hk => HB4.out.block k hk)).hf) ((HH2.out.kept HB4.out.size (fun k _ hk => HB4.out.block k hk)).hf)
  have p7 := bk_cell HX4.out 7
  have q7 := bk_cell HY4.out 7
  go_wp2_with fail
  refine hC.mono ?_
  rintro e w5 ⟨rfl, hb⟩
  have HB5 := Lib.hid (HB4.out.trans (hb.mono HB4.out.size))
  have HX5 : Hid (w5.heap[w.heap.size]? = some (.cells (xA x a1 n1 c1 a2 n2 c2 a3 n3 c3 a4 n4 c4 a5 n5 c5 a6 n6 c6 a7 n7 c7 a8 n8 c8 a9 n9 c9) 39 (0, 0))) := Lib.hid ((hb.block _ (bk_lt HX4.out)).trans HX4.out)
  have HY5 : Hid (w5.heap[w.heap.size + 1]? = some (.cells (xA x b1 n1 d1 b2 n2 d2 b3 n3 d3 b4 n4 d4 b5 n5 d5 b6 n6 d6 b7 n7 d7 b8 n8 d8 b9 n9 d9) 39 (0, 0))) := Lib.hid ((hb.block _ (bk_lt HY4.out)).trans HY4.out)
  clear hb hC HX4 HY4 p7 q7
  have hC := same_expr x.cond.a x.cond.l (.slice a6 n6 c6) (.slice b6 n6 d6) w5 ((HH1.out.kept HB5.out.size (fun k _ hk => HB5.out.block k hk)).hu) ((HH2.out.kept HB5.out.size (fun k _ hk => HB5.out.block k hk)).hu)
  unfold exVal at hC
  go_wp2_with (first
    | (refine wpListG_load_mid rfl 36 _ rfl w.heap.size 8 rfl _ _ (World.rangeAt_of_block HX5.out 8 9 : World.rangeAt _ _ _ (eL x.cond.a (.slice a6 n6 c6))) Tryz.underlying36 rfl (by kernel_rfl) ?_)
    | (refine wpListG_load_mid rfl 36 _ rfl (w.heap.size + 1) 8 rfl _ _ (World.rangeAt_of_block HY5.out 8 9 : World.rangeAt _ _ _ (eL x.cond.a (.slice b6 n6 d6))) Tryz.underlying36 rfl (by kernel_rfl) ?_))
  refine hC.mono ?_
  rintro e w6 ⟨rfl, hb⟩
  have HB6 := Lib.hid (HB5.out.trans (hb.mono HB5.out.size))
  have HX6 : Hid (w6.heap[w.heap.size]? = some (.cells (xA x a1 n1 c1 a2 n2 c2 a3 n3 c3 a4 n4 c4 a5 n5 c5 a6 n6 c6 a7 n7 c7 a8 n8 c8 a9 n9 c9) 39 (0, 0))) := Lib.hid ((hb.block _ (bk_lt HX5.out)).trans HX5.out)
  have HY6 : Hid (w6.heap[w.heap.size + 1]? = some (.cells (xA x b1 n1 d1 b2 n2 d2 b3 n3 d3 b4 n4 d4 b5 n5 d5 b6 n6 d6 b7 n7 d7 b8 n8 d8 b9 n9 d9) 39 (0, 0))) := Lib.hid ((hb.block _ (bk_lt HY5.out)).trans HY5.out)
  clear hb hC HX5 HY5
  have hC := same_exprs (Exs.ofL x.group) (.slice a7 n7 c7) (.slice b7 n7 d7) w6 (((HH1.out.kept HB6.out.size (fun k _ hk => HB6.out.block k hk)).hg |> REs.of_row)) (((HH2.out.kept HB6.out.size (fun k _ hk => HB6.out.block k hk)).hg |> REs.of_row))
  have p17 := bk_cell HX6.out 17
  have q17 := bk_cell HY6.out 17
  go_wp2_with fail
  refine hC.mono ?_
  rintro e w7 ⟨rfl, hb⟩
  have HB7 := Lib.hid (HB6.out.trans (hb.mono HB6.out.size))
  have HX7 : Hid (w7.heap[w.heap.size]? = some (.cells (xA x a1 n1 c1 a2 n2 c2 a3 n3 c3 a4 n4 c4 a5 n5 c5 a6 n6 c6 a7 n7 c7 a8 n8 c8 a9 n9 c9) 39 (0, 0))) := Lib.hid ((hb.block _ (bk_lt HX6.out)).trans HX6.out)
  have HY7 : Hid (w7.heap[w.heap.size + 1]? = some (.cells (xA x b1 n1 d1 b2 n2 d2 b3 n3 d3 b4 n4 d4 b5 n5 d5 b6 n6 d6 b7 n7 d7 b8 n8 d8 b9 n9 d9) 39 (0, 0))) := Lib.hid ((hb.block _ (bk_lt HY6.out)).trans HY6.out)
  clear hb hC HX6 HY6 p17 q17
  have hC := same_expr x.having_.a x.having_.l (.slice a8 n8 c8) (.slice b8 n8 d8) w7 ((HH1.out.kept HB7.out.size (fun k _ hk => HB7.out.block k hk)).hh) ((HH2.out.kept HB7.out.size (fun k _ hk => HB7.out.block k hk)).hh)
  unfold exVal at hC
  go_wp2_with (first
    | (refine wpListG_load_mid rfl 36 _ rfl w.heap.size 18 rfl _ _ (World.rangeAt_of_block HX7.out 18 9 : World.rangeAt _ _ _ (eL x.having_.a (.slice a8 n8 c8))) Tryz.underlying36 rfl (by kernel_rfl) ?_)
    | (refine wpListG_load_mid rfl 36 _ rfl (w.heap.size + 1) 18 rfl _ _ (World.rangeAt_of_block HY7.out 18 9 : World.rangeAt _ _ _ (eL x.having_.a (.slice b8 n8 d8))) Tryz.underlying36 rfl (by kernel_rfl) ?_))
  refine hC.mono ?_
  rintro e w8 ⟨rfl, hb⟩
  have HB8 := Lib.hid (HB7.out.trans (hb.mono HB7.out.size))
  have HX8 : Hid (w8.heap[w.heap.size]? = some (.cells (xA x a1 n1 c1 a2 n2 c2 a3 n3 c3 a4 n4 c4 a5 n5 c5 a6 n6 c6 a7 n7 c7 a8 n8 c8 a9 n9 c9) 39 (0, 0))) := Lib.hid ((hb.block _ (bk_lt HX7.out)).trans HX7.out)
  have HY8 : Hid (w8.heap[w.heap.size + 1]? = some (.cells (xA x b1 n1 d1 b2 n2 d2 b3 n3 d3 b4 n4 d4 b5 n5 d5 b6 n6 d6 b7 n7 d7 b8 n8 d8 b9 n9 d9) 39 (0, 0))) := Lib.hid ((hb.block _ (bk_lt HY7.out)).trans HY7.out)
  clear hb hC HX7 HY7
  have hC := sameOrders_yes x.order (.slice a9 n9 c9) (.slice b9 n9 d9) w8 ((HH1.out.kept HB8.out.size (fun k _ hk => HB8.out.block k hk)).ho) ((HH2.out.kept HB8.out.size (fun k _ hk => HB8.out.block k hk)).ho)
  have p27 := bk_cell HX8.out 27
  have q27 := bk_cell HY8.out 27
  go_wp2_with fail
  refine hC.mono ?_
  rintro e w9 ⟨rfl, hb⟩
  have HB9 := Lib.hid (HB8.out.trans (hb.mono HB8.out.size))
  have HX9 : Hid (w9.heap[w.heap.size]? = some (.cells (xA x a1 n1 c1 a2 n2 c2 a3 n3 c3 a4 n4 c4 a5 n5 c5 a6 n6 c6 a7 n7 c7 a8 n8 c8 a9 n9 c9) 39 (0, 0))) := Lib.hid ((hb.block _ (bk_lt HX8.out)).trans HX8.out)
  have HY9 : Hid (w9.heap[w.heap.size + 1]? = some (.cells (xA x b1 n1 d1 b2 n2 d2 b3 n3 d3 b4 n4 d4 b5 n5 d5 b6 n6 d6 b7 n7 d7 b8 n8 d8 b9 n9 d9) 39 (0, 0))) := Lib.hid ((hb.block _ (bk_lt HY8.out)).trans HY8.out)
  clear hb hC HX8 HY8 p27 q27
  have p28 := bk_cell HX9.out 28
  have q28 := bk_cell HY9.out 28
  have p29 := bk_cell HX9.out 29
  have q29 := bk_cell HY9.out 29
  go_wp2_with fail
  go_ret
  exact ⟨rfl, HB9.out⟩
theorem same_stmt (x : StM) (v1 v2 v3 v4 v5 v6 v7 v8 v9 u1 u2 u3 u4 u5 u6 u7 u8 u9 : Value) (w : World) (h1 : StHeld (fun _ => True) w x v1 v2 v3 v4 v5 v6 v7 v8 v9) (h2 : StHeld (fun _ => True) w x u1 u2 u3 u4 u5 u6 u7 u8 u9) :
    Calls Tryz.prog 25 #[.agg (stArr x v1 v2 v3 v4 v5 v6 v7 v8 v9), .agg (stArr x u1 u2 u3 u4 u5 u6 u7 u8 u9)] w fun e w' => e = .returned (.bool true) ∧ Below w.heap.size w w' := by
  have q1 := h1.lens
  have q2 := h2.lens
  obtain ⟨a1, n1, c1, a2, n2, c2, a3, n3, c3, a4, n4, c4, a5, n5, c5, a6, n6, c6, a7, n7, c7, a8, n8, c8, a9, n9, c9, ⟨rfl, rfl, rfl, rfl, rfl, rfl, rfl, rfl, rfl⟩, hl⟩ := q1
  obtain ⟨b1, m1, d1, b2, m2, d2, b3, m3, d3, b4, m4, d4, b5, m5, d5, b6, m6, d6, b7, m7, d7, b8, m8, d8, b9, m9, d9, ⟨rfl, rfl, rfl, rfl, rfl, rfl, rfl, rfl, rfl⟩, hm⟩ := q2
  obtain rfl := hl.h1.symm.trans hm.h1
  obtain rfl := hl.h2.symm.trans hm.h2
  obtain rfl := hl.h3.symm.trans hm.h3
  obtain rfl := hl.h4.symm.trans hm.h4
  obtain rfl := hl.h5.symm.trans hm.h5
  obtain rfl := hl.h6.symm.trans hm.h6
  obtain rfl := hl.h7.symm.trans hm.h7
  obtain rfl := hl.h8.symm.trans hm.h8
  obtain rfl := hl.h9.symm.trans hm.h9
  exact sameStmt_raw x a1 b1 n1 c1 d1 a2 b2 n2 c2 d2 a3 b3 n3 c3 d3 a4 b4 n4 c4 d4 a5 b5 n5 c5 d5 a6 b6 n6 c6 d6 a7 b7 n7 c7 d7 a8 b8 n8 c8 d8 a9 b9 n9 c9 d9 w h1 h2
end
end Go.Proofs.YtenmnpbjnbdeaaaGreatDoor
