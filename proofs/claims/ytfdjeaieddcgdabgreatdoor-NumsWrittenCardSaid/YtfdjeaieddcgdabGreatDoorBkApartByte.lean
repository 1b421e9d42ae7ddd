/-
  WHAT IS PROVED: a Book that keeps lists of bytes alone: Apart. (Printed by genBkApart.py.)
-/
import Derived.Test.YtfdjeaieddcgdabGreatDoorBkNone
import Derived.Test.YtfdjeaieddcgdabGreatDoorBkKeep
namespace Go.Proofs.YtfdjeaieddcgdabGreatDoor
open Go.RowKit
set_option linter.unusedVariables false

theorem held_filledByte {w w1 : World} {base B T : Nat} {hv : Value} {E : List Ent} (H : Held w base B hv T 5 1 E) (ht : Turn (blocksE E) w w1) (M : ∀ x ∈ E, w1.ownsRow base 5 1 x.v x.n (List.replicate x.n (mk8 x.k))) : Held w1 base B hv T 5 1 E :=
  ⟨ht.own H.own H.free.2, H.notB, H.longs, fun x hx => ⟨_, M x hx⟩, H.apart, H.sep⟩

set_option maxRecDepth 100000 in
set_option maxHeartbeats 8000000 in
theorem apartByte_any (B base : Nat) (hv : Value) (E : List Ent) (cs : Array Value) (w : World) (hbase : base ≤ w.heap.size) (hB : w.heap[B]? = some (.cells cs 82 (0, 0))) (h1 : cs[1]? = some hv) (hn : ∀ j, 1 ≤ j → j < 20 → j ≠ 1 → cs[j]? = some (.slice none 0 0))
    (hl : E.length ≤ 1000) (hk : ∀ x ∈ E, x.k ≤ 1000000 ∧ x.n ≤ 1099511627776) (H : Held w base B hv 225 5 1 E) :
    Calls Tryz.prog 26 #[.pointer (some ⟨B, 0, none⟩)] w fun e w' => e = .returned (.bool true) ∧ Turn (fun k => blocksE E k ∨ hv.ownBlock = some k) w w' := by
  have HB0 := Lib.hid hB
  have HN := Lib.hid hn
  have H1 := Lib.hid h1
  have HK := Lib.hid hk
  have HH := Lib.hid H
  have HL := Lib.hid hl
  have HBS := Lib.hid hbase
  have HF := Lib.hid H.free
  clear hB hn h1 hk H hl hbase
  go_enter Tryz.func26, Tryz.ntmps26
  go_wp2_with fail
  refine (fillByte_any B base hv E _ ((bk_cell HB0.out 1).trans H1.out) HL.out HK.out HH.out).mono ?_
  rintro e w1 ⟨rfl, ht1, hm1⟩
  have HB1 := Lib.hid (ht1.at_ HB0.out HF.out.1)
  have HH1 := Lib.hid (held_filledByte HH.out ht1 hm1)
  have HM1 := Lib.hid hm1
  have HT1 := Lib.hid ht1
  clear ht1 hm1
  go_wp2_with fail
  refine (fillId_none B _ ((bk_cell HB1.out 2).trans (HN.out 2 (by omega) (by omega) (by omega)))).mono ?_
  rintro e w' ⟨rfl, rfl⟩
  go_wp2_with fail
  refine (fillInt_none B _ ((bk_cell HB1.out 3).trans (HN.out 3 (by omega) (by omega) (by omega)))).mono ?_
  rintro e w' ⟨rfl, rfl⟩
  go_wp2_with fail
  refine (fillText_none B _ ((bk_cell HB1.out 4).trans (HN.out 4 (by omega) (by omega) (by omega)))).mono ?_
  rintro e w' ⟨rfl, rfl⟩
  go_wp2_with fail
  refine (fillValue_none B _ ((bk_cell HB1.out 5).trans (HN.out 5 (by omega) (by omega) (by omega)))).mono ?_
  rintro e w' ⟨rfl, rfl⟩
  go_wp2_with fail
  refine (fillWord_none B _ ((bk_cell HB1.out 6).trans (HN.out 6 (by omega) (by omega) (by omega)))).mono ?_
  rintro e w' ⟨rfl, rfl⟩
  go_wp2_with fail
  refine (fillColumn_none B _ ((bk_cell HB1.out 7).trans (HN.out 7 (by omega) (by omega) (by omega)))).mono ?_
  rintro e w' ⟨rfl, rfl⟩
  go_wp2_with fail
  refine (fillIndex_none B _ ((bk_cell HB1.out 8).trans (HN.out 8 (by omega) (by omega) (by omega)))).mono ?_
  rintro e w' ⟨rfl, rfl⟩
  go_wp2_with fail
  refine (fillExpr_none B _ ((bk_cell HB1.out 9).trans (HN.out 9 (by omega) (by omega) (by omega)))).mono ?_
  rintro e w' ⟨rfl, rfl⟩
  go_wp2_with fail
  refine (fillItem_none B _ ((bk_cell HB1.out 10).trans (HN.out 10 (by omega) (by omega) (by omega)))).mono ?_
  rintro e w' ⟨rfl, rfl⟩
  go_wp2_with fail
  refine (fillFrom_none B _ ((bk_cell HB1.out 11).trans (HN.out 11 (by omega) (by omega) (by omega)))).mono ?_
  rintro e w' ⟨rfl, rfl⟩
  go_wp2_with fail
  refine (fillOrder_none B _ ((bk_cell HB1.out 12).trans (HN.out 12 (by omega) (by omega) (by omega)))).mono ?_
  rintro e w' ⟨rfl, rfl⟩
  go_wp2_with fail
  refine (fillTable_none B _ ((bk_cell HB1.out 13).trans (HN.out 13 (by omega) (by omega) (by omega)))).mono ?_
  rintro e w' ⟨rfl, rfl⟩
  go_wp2_with fail
  refine (fillGrid_none B _ ((bk_cell HB1.out 14).trans (HN.out 14 (by omega) (by omega) (by omega)))).mono ?_
  rintro e w' ⟨rfl, rfl⟩
  go_wp2_with fail
  refine (fillHeap_none B _ ((bk_cell HB1.out 15).trans (HN.out 15 (by omega) (by omega) (by omega)))).mono ?_
  rintro e w' ⟨rfl, rfl⟩
  go_wp2_with fail
  refine (fillResult_none B _ ((bk_cell HB1.out 16).trans (HN.out 16 (by omega) (by omega) (by omega)))).mono ?_
  rintro e w' ⟨rfl, rfl⟩
  go_wp2_with fail
  refine (fillEntry_none B _ ((bk_cell HB1.out 17).trans (HN.out 17 (by omega) (by omega) (by omega)))).mono ?_
  rintro e w' ⟨rfl, rfl⟩
  go_wp2_with fail
  refine (fillMsg_none B _ ((bk_cell HB1.out 18).trans (HN.out 18 (by omega) (by omega) (by omega)))).mono ?_
  rintro e w' ⟨rfl, rfl⟩
  go_wp2_with fail
  refine (fillEvent_none B _ ((bk_cell HB1.out 19).trans (HN.out 19 (by omega) (by omega) (by omega)))).mono ?_
  rintro e w' ⟨rfl, rfl⟩
  go_wp2_with fail
  refine (growByte_any B base hv E _ (Nat.le_trans HBS.out HT1.out.size) ((bk_cell HB1.out 1).trans H1.out) HL.out HK.out HH1.out HM1.out).mono ?_
  rintro e w2 ⟨rfl, hg2⟩
  have HB2 := Lib.hid (hg2.1.at_ HB1.out (fun h => by
    rcases h with h | h
    · exact HF.out.1 h
    · exact HH.out.notB h))
  have HG2 := Lib.hid hg2
  clear hg2
  go_wp2_with fail
  refine (growId_none B _ ((bk_cell HB2.out 2).trans (HN.out 2 (by omega) (by omega) (by omega)))).mono ?_
  rintro e w' ⟨rfl, rfl⟩
  go_wp2_with fail
  refine (growInt_none B _ ((bk_cell HB2.out 3).trans (HN.out 3 (by omega) (by omega) (by omega)))).mono ?_
  rintro e w' ⟨rfl, rfl⟩
  go_wp2_with fail
  refine (growText_none B _ ((bk_cell HB2.out 4).trans (HN.out 4 (by omega) (by omega) (by omega)))).mono ?_
  rintro e w' ⟨rfl, rfl⟩
  go_wp2_with fail
  refine (growValue_none B _ ((bk_cell HB2.out 5).trans (HN.out 5 (by omega) (by omega) (by omega)))).mono ?_
  rintro e w' ⟨rfl, rfl⟩
  go_wp2_with fail
  refine (growWord_none B _ ((bk_cell HB2.out 6).trans (HN.out 6 (by omega) (by omega) (by omega)))).mono ?_
  rintro e w' ⟨rfl, rfl⟩
  go_wp2_with fail
  refine (growColumn_none B _ ((bk_cell HB2.out 7).trans (HN.out 7 (by omega) (by omega) (by omega)))).mono ?_
  rintro e w' ⟨rfl, rfl⟩
  go_wp2_with fail
  refine (growIndex_none B _ ((bk_cell HB2.out 8).trans (HN.out 8 (by omega) (by omega) (by omega)))).mono ?_
  rintro e w' ⟨rfl, rfl⟩
  go_wp2_with fail
  refine (growExpr_none B _ ((bk_cell HB2.out 9).trans (HN.out 9 (by omega) (by omega) (by omega)))).mono ?_
  rintro e w' ⟨rfl, rfl⟩
  go_wp2_with fail
  refine (growItem_none B _ ((bk_cell HB2.out 10).trans (HN.out 10 (by omega) (by omega) (by omega)))).mono ?_
  rintro e w' ⟨rfl, rfl⟩
  go_wp2_with fail
  refine (growFrom_none B _ ((bk_cell HB2.out 11).trans (HN.out 11 (by omega) (by omega) (by omega)))).mono ?_
  rintro e w' ⟨rfl, rfl⟩
  go_wp2_with fail
  refine (growOrder_none B _ ((bk_cell HB2.out 12).trans (HN.out 12 (by omega) (by omega) (by omega)))).mono ?_
  rintro e w' ⟨rfl, rfl⟩
  go_wp2_with fail
  refine (growTable_none B _ ((bk_cell HB2.out 13).trans (HN.out 13 (by omega) (by omega) (by omega)))).mono ?_
  rintro e w' ⟨rfl, rfl⟩
  go_wp2_with fail
  refine (growGrid_none B _ ((bk_cell HB2.out 14).trans (HN.out 14 (by omega) (by omega) (by omega)))).mono ?_
  rintro e w' ⟨rfl, rfl⟩
  go_wp2_with fail
  refine (growHeap_none B _ ((bk_cell HB2.out 15).trans (HN.out 15 (by omega) (by omega) (by omega)))).mono ?_
  rintro e w' ⟨rfl, rfl⟩
  go_wp2_with fail
  refine (growResult_none B _ ((bk_cell HB2.out 16).trans (HN.out 16 (by omega) (by omega) (by omega)))).mono ?_
  rintro e w' ⟨rfl, rfl⟩
  go_wp2_with fail
  refine (growEntry_none B _ ((bk_cell HB2.out 17).trans (HN.out 17 (by omega) (by omega) (by omega)))).mono ?_
  rintro e w' ⟨rfl, rfl⟩
  go_wp2_with fail
  refine (growMsg_none B _ ((bk_cell HB2.out 18).trans (HN.out 18 (by omega) (by omega) (by omega)))).mono ?_
  rintro e w' ⟨rfl, rfl⟩
  go_wp2_with fail
  refine (growEvent_none B _ ((bk_cell HB2.out 19).trans (HN.out 19 (by omega) (by omega) (by omega)))).mono ?_
  rintro e w' ⟨rfl, rfl⟩
  go_wp2_with fail
  refine (lookByte_any B base hv E _ _ ((bk_cell HB2.out 1).trans H1.out) HL.out HK.out HG2.out).mono ?_
  rintro e w3 ⟨rfl, ht3⟩
  have HB3 := Lib.hid (ht3.at_ HB2.out id)
  have HT3 := Lib.hid ht3
  clear ht3
  go_wp2_with fail
  refine (lookId_none B _ ((bk_cell HB3.out 2).trans (HN.out 2 (by omega) (by omega) (by omega)))).mono ?_
  rintro e w' ⟨rfl, rfl⟩
  go_wp2_with fail
  refine (lookInt_none B _ ((bk_cell HB3.out 3).trans (HN.out 3 (by omega) (by omega) (by omega)))).mono ?_
  rintro e w' ⟨rfl, rfl⟩
  go_wp2_with fail
  refine (lookText_none B _ ((bk_cell HB3.out 4).trans (HN.out 4 (by omega) (by omega) (by omega)))).mono ?_
  rintro e w' ⟨rfl, rfl⟩
  go_wp2_with fail
  refine (lookValue_none B _ ((bk_cell HB3.out 5).trans (HN.out 5 (by omega) (by omega) (by omega)))).mono ?_
  rintro e w' ⟨rfl, rfl⟩
  go_wp2_with fail
  refine (lookWord_none B _ ((bk_cell HB3.out 6).trans (HN.out 6 (by omega) (by omega) (by omega)))).mono ?_
  rintro e w' ⟨rfl, rfl⟩
  go_wp2_with fail
  refine (lookColumn_none B _ ((bk_cell HB3.out 7).trans (HN.out 7 (by omega) (by omega) (by omega)))).mono ?_
  rintro e w' ⟨rfl, rfl⟩
  go_wp2_with fail
  refine (lookIndex_none B _ ((bk_cell HB3.out 8).trans (HN.out 8 (by omega) (by omega) (by omega)))).mono ?_
  rintro e w' ⟨rfl, rfl⟩
  go_wp2_with fail
  refine (lookExpr_none B _ ((bk_cell HB3.out 9).trans (HN.out 9 (by omega) (by omega) (by omega)))).mono ?_
  rintro e w' ⟨rfl, rfl⟩
  go_wp2_with fail
  refine (lookItem_none B _ ((bk_cell HB3.out 10).trans (HN.out 10 (by omega) (by omega) (by omega)))).mono ?_
  rintro e w' ⟨rfl, rfl⟩
  go_wp2_with fail
  refine (lookFrom_none B _ ((bk_cell HB3.out 11).trans (HN.out 11 (by omega) (by omega) (by omega)))).mono ?_
  rintro e w' ⟨rfl, rfl⟩
  go_wp2_with fail
  refine (lookOrder_none B _ ((bk_cell HB3.out 12).trans (HN.out 12 (by omega) (by omega) (by omega)))).mono ?_
  rintro e w' ⟨rfl, rfl⟩
  go_wp2_with fail
  refine (lookTable_none B _ ((bk_cell HB3.out 13).trans (HN.out 13 (by omega) (by omega) (by omega)))).mono ?_
  rintro e w' ⟨rfl, rfl⟩
  go_wp2_with fail
  refine (lookGrid_none B _ ((bk_cell HB3.out 14).trans (HN.out 14 (by omega) (by omega) (by omega)))).mono ?_
  rintro e w' ⟨rfl, rfl⟩
  go_wp2_with fail
  refine (lookHeap_none B _ ((bk_cell HB3.out 15).trans (HN.out 15 (by omega) (by omega) (by omega)))).mono ?_
  rintro e w' ⟨rfl, rfl⟩
  go_wp2_with fail
  refine (lookResult_none B _ ((bk_cell HB3.out 16).trans (HN.out 16 (by omega) (by omega) (by omega)))).mono ?_
  rintro e w' ⟨rfl, rfl⟩
  go_wp2_with fail
  refine (lookEntry_none B _ ((bk_cell HB3.out 17).trans (HN.out 17 (by omega) (by omega) (by omega)))).mono ?_
  rintro e w' ⟨rfl, rfl⟩
  go_wp2_with fail
  refine (lookMsg_none B _ ((bk_cell HB3.out 18).trans (HN.out 18 (by omega) (by omega) (by omega)))).mono ?_
  rintro e w' ⟨rfl, rfl⟩
  go_wp2_with fail
  refine (lookEvent_none B _ ((bk_cell HB3.out 19).trans (HN.out 19 (by omega) (by omega) (by omega)))).mono ?_
  rintro e w' ⟨rfl, rfl⟩
  go_wp2_with fail
  go_ret
  exact ⟨rfl, ((HT1.out.mono (fun _ _ h => .inl h)).trans HG2.out.1).trans (HT3.out.mono (fun _ _ h => h.elim))⟩
end Go.Proofs.YtfdjeaieddcgdabGreatDoor
