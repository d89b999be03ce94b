/- The walk of MachOps. -/
import Derived.Test.YtjimeengkfjihaaGreatDoorRows
import Derived.WalkKit
import Derived.ProofKit
import Derived.OpenShut
import Derived.WalkLawsBesides
import Derived.WalkSpells
import Derived.Outline
import Derived.Handy
import Derived.Lib.Hide
import Derived.Lib.OthersKept
import Derived.KernelRfl
import Derived.Carry
import Derived.IntWalk
import Derived.Deep.RegionHeldLaw
import Derived.Deep.MidRow
import Derived.Test.YtjimeengkfjihaaGreatDoorMbD
import Derived.Test.YtjimeengkfjihaaGreatDoorMbP
namespace Go.Proofs.YtjimeengkfjihaaGreatDoor
open Go.ChangeShapes Go.WideShapes Go.ChangeAt Go.RowKit
set_option linter.unusedVariables false
set_option linter.unusedSimpArgs false
def InB (w : World) (b : Nat) (p B : Int) : Prop := w.heap[b]? = some (.cells #[.int .i64 (1 + p), .int .i64 10, .int .i64 5, .int .i64 B, .int .i64 0, .string ⟨#[]⟩] 39 (0, 0))
theorem cells6 {w : World} {b : Nat} {v0 v1 v2 v3 v4 v5 : Value} {t : TypeId} (h : w.heap[b]? = some (.cells #[v0, v1, v2, v3, v4, v5] t (0, 0))) : w.cell? ⟨b, 0, none⟩ = some v0 ∧ w.cell? ⟨b, 1, none⟩ = some v1 ∧ w.cell? ⟨b, 2, none⟩ = some v2 ∧ w.cell? ⟨b, 3, none⟩ = some v3 ∧ w.cell? ⟨b, 4, none⟩ = some v4 ∧ w.cell? ⟨b, 5, none⟩ = some v5 := by
  refine ⟨?_, ?_, ?_, ?_, ?_, ?_⟩ <;> simp [World.cell?, h]
theorem store2 {wr : World} {b : Nat} {v0 v1 : Value} {t : TypeId} (h : wr.heap[b]? = some (.cells #[v0, v1] t (0, 0))) (x y : Value) : (wr.setCells b 0 [x, y]).heap[b]? = some (.cells #[x, y] t (0, 0)) := heap_setCell_same _ _ 1 _ _ y (heap_setCell_same _ _ 0 _ _ x h)
theorem there2 {w : World} {C : Nat} {t : TypeId} (h : w.heap[C]? = some (.cells #[.slice none 0 0, .slice none 0 0] t (0, 0))) : w.there C 0 2 := by
  intro j hj
  rw [Nat.zero_add]
  refine ⟨?_, by simp [World.frozen?, h]⟩
  rw [cell_row h, Array.getElem?_eq_getElem (show j < (#[Value.slice none 0 0, .slice none 0 0] : Array Value).size from hj)]
  rfl
theorem infoCode : (Tryz.prog.info? 27).map (·.size) = some 2 := by kernel_rfl
def OpR (w : World) (b : Nat) (p B x y : Int) (s10 : Value) (wx : World) : Prop := ∃ C, s10 = .pointer (some ⟨C, 0, none⟩) ∧ InB wx b p B ∧ Below w.heap.size w wx ∧ C ≠ b ∧ ∃ l, wx.heap[C]? = some (.cells #[.slice none 0 0, .slice (some ⟨l, 0, none⟩) 5 5] 27 (0, 0)) ∧ wx.heap[l]? = some (.cells ((plainC (opsL (1 + p) B x y) []).lines.flatMap cellsL).toArray 41 (0, 0))
theorem ops_lo2 {p a b : Int} (h : 0 ≤ p ∧ p < 12) : runL (plainC (opsL (1 + p) 6 a b) []) [] 9 = ⟨1, madeI (1 + p) 0 a b, [], 5⟩ := by
  rw [Int.add_comm]; exact ops_lo h
theorem ops_hi2 {p a b : Int} (h : 12 ≤ p ∧ p < 15) : runL (plainC (opsL (1 + p) 0 a b) []) [] 9 = ⟨1, madeI (1 + p) 0 a 0, [], 5⟩ := by
  rw [Int.add_comm]; exact ops_hi h
theorem opr_mk {w wa wx : World} {b : Nat} {p x y : Int} {s10 : Value} {C l : Nat} (B : Int) (g1 : Below w.heap.size w wa) (hb : InB wa b p B) (g : Below wa.heap.size wa wx) (zb : b < wa.heap.size) (hs : s10 = .pointer (some ⟨C, 0, none⟩)) (hC : wa.heap.size ≤ C) (h1 : wx.heap[C]? = some (.cells #[.slice none 0 0, .slice (some ⟨l, 0, none⟩) 5 5] 27 (0, 0))) (h2 : wx.heap[l]? = some (.cells ((plainC (opsL (1 + p) B x y) []).lines.flatMap cellsL).toArray 41 (0, 0))) : OpR w b p B x y s10 wx :=
  ⟨C, hs, (g.block b zb).trans hb, ext_trans g1 g, by omega, l, h1, h2⟩
set_option maxHeartbeats 16000000 in
set_option maxRecDepth 100000 in
theorem ops_low (c x y p : Int) (w : World) (hc : I64 c) (hx : I64 x) (hy : I64 y) (hv : Env w) (hk : pickN c 15 = p) (hp : 0 ≤ p ∧ p < 12) : Calls Tryz.prog 8 #[.int .i64 c, .int .i64 x, .int .i64 y] w fun e w' => e = .returned (.bool true) ∧ Below w.heap.size w w' := by
  have HAW := Lib.hid (awake9_any w hv)
  have P1 : Hid (∀ w, Calls Tryz.prog 13 #[.int .i64 c, .int .i64 15] w fun e w' => e = .returned (.int .i64 p) ∧ w = w') :=
    Lib.hid (fun w => (pick9_any c 15 w hc (by decide)).mono fun e w' h => ⟨by rw [← hk]; exact h.1, h.2⟩)
  have HRN : Hid (∀ (v : Value) w', CdAt w' v (plainC (opsL (1 + p) 6 x y) []) → Calls Tryz.prog 14 #[v, .slice none 0 0, .int .i64 9] w' fun e w'' => (∃ po co, e = .returned (.agg #[.int .i64 1, .int .i64 (madeI (1 + p) 0 x y), .slice po 0 co, .int .i64 5]) ∧ RnAt w'' (.agg #[.int .i64 1, .int .i64 (madeI (1 + p) 0 x y), .slice po 0 co, .int .i64 5]) ⟨1, madeI (1 + p) 0 x y, [], 5⟩) ∧ Below w'.heap.size w' w'') :=
    Lib.hid (fun v w' h => run_nil v _ w' h ops_fit (by show 0 ≤ 1000; decide) (plain_n64 (ops_n64 hx hy)) 9 (by decide) _ (ops_lo2 hp))
  have hp64 : I64 p := by unfold I64; omega
  clear hv hc hk
  go_enter Tryz.func8, Tryz.ntmps8
  go_wp2_with fail
  refine HAW.out.mono ?_; rintro e w0 ⟨rfl, g0⟩
  have GA := Lib.hid g0
  have z0 := g0.size
  clear g0 HAW
  go_upto_region 6 with (first | (go_at_call 13; (with_reducible refine (P1.out _).mono ?_); rintro e wk ⟨rfl, rfl⟩))
  generalize hwa : (w0.alloc (.cells #[.int .i64 (1 + p), .int .i64 10, .int .i64 5, .int .i64 6, .int .i64 0, .string ⟨#[]⟩] 39)) = wa
  have HB : Hid (InB wa w0.heap.size p 6) := Lib.hid (by rw [← hwa]; exact heap_new w0 _)
  have G1 : Hid (Below w.heap.size w wa) := Lib.hid (by rw [← hwa]; exact ext_alloc GA.out _)
  have zb : w0.heap.size < wa.heap.size := (Array.getElem?_eq_some_iff.1 HB.out).1
  have KEEP : Hid (∀ w', Below wa.heap.size wa w' → ((fun w' => w'.cell? ⟨w0.heap.size, 0, none⟩ = some (.int .i64 (1 + p)) ∧ w'.cell? ⟨w0.heap.size, 1, none⟩ = some (.int .i64 10) ∧ w'.cell? ⟨w0.heap.size, 2, none⟩ = some (.int .i64 5) ∧ w'.cell? ⟨w0.heap.size, 3, none⟩ = some (.int .i64 6) ∧ w'.cell? ⟨w0.heap.size, 4, none⟩ = some (.int .i64 0) ∧ w'.cell? ⟨w0.heap.size, 5, none⟩ = some (.string ⟨#[]⟩)) : World → Prop) w') := Lib.hid (fun w' g => cells6 ((g.block _ zb).trans HB.out))
  clear hwa GA
  go_cut [10] (fun s10 wx => OpR w w0.heap.size p 6 x y s10 wx)
  case first =>
    refine wp_region_held_drew (S := fun w' => w'.cell? ⟨w0.heap.size, 0, none⟩ = some (.int .i64 (1 + p)) ∧ w'.cell? ⟨w0.heap.size, 1, none⟩ = some (.int .i64 10) ∧ w'.cell? ⟨w0.heap.size, 2, none⟩ = some (.int .i64 5) ∧ w'.cell? ⟨w0.heap.size, 3, none⟩ = some (.int .i64 6) ∧ w'.cell? ⟨w0.heap.size, 4, none⟩ = some (.int .i64 0) ∧ w'.cell? ⟨w0.heap.size, 5, none⟩ = some (.string ⟨#[]⟩)) (by kernel_rfl) (KEEP.out _ (ext_drew (Below.refl _ _))) (fun hHeld => ?_)
    refine wpAnyH_take (i := 0) (v := ?_) rfl (by kernel_rfl) (by kernel_rfl) (by kernel_rfl) (fun _ _ _ h => h) (Or.inl ⟨by rfl, ?hy⟩) hHeld ?_
    case hy => (intro w hSw; (try dsimp only at hSw); go_simp; try (with_reducible rfl))
    try simp only [Act.put, List.setIfInBounds_toArray, List.set_cons_zero, List.set_cons_succ]
    refine wpAnyH_take (i := 1) (v := ?_) rfl (by kernel_rfl) (by kernel_rfl) (by kernel_rfl) (fun _ _ _ h => h) (Or.inl ⟨by rfl, ?hy⟩) hHeld ?_
    case hy => (intro w hSw; (try dsimp only at hSw); go_simp; try (with_reducible rfl))
    try simp only [Act.put, List.setIfInBounds_toArray, List.set_cons_zero, List.set_cons_succ]
    refine wpAnyH_take (i := 3) (v := ?_) rfl (by kernel_rfl) (by kernel_rfl) (by kernel_rfl) (fun _ _ _ h => h) (Or.inl ⟨by rfl, ?hy⟩) hHeld ?_
    case hy => (intro w hSw; (try dsimp only at hSw); go_simp; try (with_reducible rfl))
    try simp only [Act.put, List.setIfInBounds_toArray, List.set_cons_zero, List.set_cons_succ]
    refine wpAnyH_take (i := 4) (v := ?_) rfl (by kernel_rfl) (by kernel_rfl) (by kernel_rfl) (fun _ _ _ h => h) (Or.inl ⟨by rfl, ?hy⟩) hHeld ?_
    case hy => (intro w hSw; (try dsimp only at hSw); go_simp; try (with_reducible rfl))
    try simp only [Act.put, List.setIfInBounds_toArray, List.set_cons_zero, List.set_cons_succ]
    refine wpAnyH_take (i := 6) (v := ?_) rfl (by kernel_rfl) (by kernel_rfl) (by kernel_rfl) (fun _ _ _ h => h) (Or.inl ⟨by rfl, ?hy⟩) hHeld ?_
    case hy => (intro w hSw; (try dsimp only at hSw); go_simp; try (with_reducible rfl))
    try simp only [Act.put, List.setIfInBounds_toArray, List.set_cons_zero, List.set_cons_succ]
    refine wpAnyH_take (i := 8) (v := ?_) rfl (by kernel_rfl) (by kernel_rfl) (by kernel_rfl) (fun _ _ _ h => h) (Or.inl ⟨by rfl, ?hy⟩) hHeld ?_
    case hy => (intro w hSw; (try dsimp only at hSw); go_simp; try (with_reducible rfl))
    try simp only [Act.put, List.setIfInBounds_toArray, List.set_cons_zero, List.set_cons_succ]
    refine wpAnyH_take (i := 10) (v := ?_) rfl (by kernel_rfl) (by kernel_rfl) (by kernel_rfl) (fun _ _ _ h => h) (Or.inl ⟨by rfl, ?hy⟩) hHeld ?_
    case hy => (intro w hSw; (try dsimp only at hSw); go_simp; try (with_reducible rfl))
    try simp only [Act.put, List.setIfInBounds_toArray, List.set_cons_zero, List.set_cons_succ]
    refine wpAnyH_ready (rs := [2, 14]) (by kernel_rfl) (by simp) ?_
    refine AllReadyH.cons rfl (fun K hK => ?_) ?_
    · go_simp
      refine (line_any _ _ _ _ _ _ _).mono ?_; rintro e v1 ⟨rfl, gv1⟩
      have Zv1 : wa.heap.size ≤ v1.heap.size := by have := gv1.size; (try simp at this); omega
      have Gv1 := Lib.hid gv1; clear gv1
      refine hK.out _ _ (KEEP.out _ (ext_trans (ext_drew (Below.refl wa.heap.size wa)) Gv1.out)) (fun hHeld => ?_)
      clear hK K
      try simp only [Act.put, List.setIfInBounds_toArray, List.set_cons_zero, List.set_cons_succ]
      refine wpAnyH_ready (rs := [5, 14]) (by kernel_rfl) (by simp) ?_
      refine AllReadyH.cons rfl (fun K hK => ?_) ?_
      · go_simp
        refine (line_any _ _ _ _ _ _ _).mono ?_; rintro e v2 ⟨rfl, gv2⟩
        have Zv2 : v1.heap.size ≤ v2.heap.size := by have := gv2.size; (try simp at this); omega
        have Gv2 := Lib.hid gv2; clear gv2
        refine hK.out _ _ (KEEP.out _ (ext_trans (ext_trans (ext_drew (Below.refl wa.heap.size wa)) Gv1.out) Gv2.out)) (fun hHeld => ?_)
        clear hK K
        try simp only [Act.put, List.setIfInBounds_toArray, List.set_cons_zero, List.set_cons_succ]
        refine wpAnyH_ready (rs := [7, 14]) (by kernel_rfl) (by simp) ?_
        refine AllReadyH.cons rfl (fun K hK => ?_) ?_
        · go_simp
          refine (line_any _ _ _ _ _ _ _).mono ?_; rintro e v3 ⟨rfl, gv3⟩
          have Zv3 : v2.heap.size ≤ v3.heap.size := by have := gv3.size; (try simp at this); omega
          have Gv3 := Lib.hid gv3; clear gv3
          refine hK.out _ _ (KEEP.out _ (ext_trans (ext_trans (ext_trans (ext_drew (Below.refl wa.heap.size wa)) Gv1.out) Gv2.out) Gv3.out)) (fun hHeld => ?_)
          clear hK K
          try simp only [Act.put, List.setIfInBounds_toArray, List.set_cons_zero, List.set_cons_succ]
          refine wpAnyH_ready (rs := [9, 14]) (by kernel_rfl) (by simp) ?_
          refine AllReadyH.cons rfl (fun K hK => ?_) ?_
          · go_simp
            refine (line_any _ _ _ _ _ _ _).mono ?_; rintro e v4 ⟨rfl, gv4⟩
            have Zv4 : v3.heap.size ≤ v4.heap.size := by have := gv4.size; (try simp at this); omega
            have Gv4 := Lib.hid gv4; clear gv4
            refine hK.out _ _ (KEEP.out _ (ext_trans (ext_trans (ext_trans (ext_trans (ext_drew (Below.refl wa.heap.size wa)) Gv1.out) Gv2.out) Gv3.out) Gv4.out)) (fun hHeld => ?_)
            clear hK K
            try simp only [Act.put, List.setIfInBounds_toArray, List.set_cons_zero, List.set_cons_succ]
            refine wpAnyH_ready (rs := [11, 14]) (by kernel_rfl) (by simp) ?_
            refine AllReadyH.cons rfl (fun K hK => ?_) ?_
            · go_simp
              refine (line_any _ _ _ _ _ _ _).mono ?_; rintro e v5 ⟨rfl, gv5⟩
              have Zv5 : v4.heap.size ≤ v5.heap.size := by have := gv5.size; (try simp at this); omega
              have Gv5 := Lib.hid gv5; clear gv5
              refine hK.out _ _ (KEEP.out _ (ext_trans (ext_trans (ext_trans (ext_trans (ext_trans (ext_drew (Below.refl wa.heap.size wa)) Gv1.out) Gv2.out) Gv3.out) Gv4.out) Gv5.out)) (fun hHeld => ?_)
              clear hK K
              try simp only [Act.put, List.setIfInBounds_toArray, List.set_cons_zero, List.set_cons_succ]
              refine wpAnyH_ready (rs := [12, 14]) (by kernel_rfl) (by simp) ?_
              refine AllReadyH.cons rfl (fun K hK => ?_) ?_
              · go_simp
                have HL6 : Hid ((v5.alloc (.cells ((plainC (opsL (1 + p) 6 x y) []).lines.flatMap cellsL).toArray 41)).heap[v5.heap.size]? = some (.cells ((plainC (opsL (1 + p) 6 x y) []).lines.flatMap cellsL).toArray 41 (0, 0))) := Lib.hid (heap_new' _ _ _ (by first | rfl | simp))
                refine hK.out _ _ (KEEP.out _ (ext_alloc (ext_trans (ext_trans (ext_trans (ext_trans (ext_trans (ext_drew (Below.refl wa.heap.size wa)) Gv1.out) Gv2.out) Gv3.out) Gv4.out) Gv5.out) (.cells ((plainC (opsL (1 + p) 6 x y) []).lines.flatMap cellsL).toArray 41))) (fun hHeld => ?_)
                clear hK K
                try simp only [Act.put, List.setIfInBounds_toArray, List.set_cons_zero, List.set_cons_succ]
                refine wpAnyH_take (i := 13) (v := ?_) rfl (by kernel_rfl) (by kernel_rfl) (by kernel_rfl) (fun _ _ _ h => h) (Or.inl ⟨by rfl, ?hy⟩) (KEEP.out _ (ext_alloc (ext_trans (ext_trans (ext_trans (ext_trans (ext_trans (ext_drew (Below.refl wa.heap.size wa)) Gv1.out) Gv2.out) Gv3.out) Gv4.out) Gv5.out) (.cells ((plainC (opsL (1 + p) 6 x y) []).lines.flatMap cellsL).toArray 41))) ?_
                case hy => (intro w hSw; go_simp; try (with_reducible rfl))
                try simp only [Act.put, List.setIfInBounds_toArray, List.set_cons_zero, List.set_cons_succ]
                refine wpAnyH_ready (rs := [14]) (by kernel_rfl) (by simp) ?_
                refine AllReadyH.cons rfl (fun K hK => ?_) AllReadyH.nil
                go_simp
                have HL7 : Hid (((v5.alloc (.cells ((plainC (opsL (1 + p) 6 x y) []).lines.flatMap cellsL).toArray 41)).alloc (.cells #[.slice none 0 0, .slice none 0 0] 27)).heap[v5.heap.size]? = some (.cells ((plainC (opsL (1 + p) 6 x y) []).lines.flatMap cellsL).toArray 41 (0, 0))) := Lib.hid ((Lib.alloc_old _ _ _ (Array.getElem?_eq_some_iff.1 HL6.out).1).trans HL6.out)
                have HC7 : Hid (((v5.alloc (.cells ((plainC (opsL (1 + p) 6 x y) []).lines.flatMap cellsL).toArray 41)).alloc (.cells #[.slice none 0 0, .slice none 0 0] 27)).heap[v5.heap.size + 1]? = some (.cells #[.slice none 0 0, .slice none 0 0] 27 (0, 0))) := Lib.hid (heap_new' _ _ _ (by first | rfl | simp))
                refine hK.out _ _ (KEEP.out _ (ext_alloc (ext_alloc (ext_trans (ext_trans (ext_trans (ext_trans (ext_trans (ext_drew (Below.refl wa.heap.size wa)) Gv1.out) Gv2.out) Gv3.out) Gv4.out) Gv5.out) (.cells ((plainC (opsL (1 + p) 6 x y) []).lines.flatMap cellsL).toArray 41)) (.cells #[.slice none 0 0, .slice none 0 0] 27))) (fun hHeld => ?_)
                clear hK K
                try simp only [Act.put, List.setIfInBounds_toArray, List.set_cons_zero, List.set_cons_succ]
                refine wpAnyH_ready (rs := [15]) (by kernel_rfl) (by simp) ?_
                refine AllReadyH.cons rfl (fun K hK => ?_) AllReadyH.nil
                rw [if_pos (by rfl)]
                refine wp_store_mid 27 _ _ rfl (v5.heap.size + 1) 0 #[.slice none 0 0, .slice (some ⟨v5.heap.size, 0, none⟩) 5 5] rfl rfl (there2 HC7.out) infoCode (by simp [Value.oneCell']) ?_
                have BL := Lib.hid (setCells_below (b := v5.heap.size + 1) [.slice none 0 0, .slice (some ⟨v5.heap.size, 0, none⟩) 5 5] 0 _ _ (ext_alloc (ext_alloc (ext_trans (ext_trans (ext_trans (ext_trans (ext_trans (ext_drew (Below.refl wa.heap.size wa)) Gv1.out) Gv2.out) Gv3.out) Gv4.out) Gv5.out) (.cells ((plainC (opsL (1 + p) 6 x y) []).lines.flatMap cellsL).toArray 41)) (.cells #[.slice none 0 0, .slice none 0 0] 27)) (show wa.heap.size ≤ v5.heap.size + 1 by omega))
                refine hK.out _ _ (KEEP.out _ BL.out) (fun hHeld => ?_)
                clear hK K
                try simp only [Act.put, List.setIfInBounds_toArray, List.set_cons_zero, List.set_cons_succ]
                refine wpAnyH_done (by kernel_rfl) ?_ _
                have HLD := Lib.hid (opr_mk (s10 := .pointer (some ⟨v5.heap.size + 1, 0, none⟩)) 6 G1.out HB.out BL.out zb rfl (show wa.heap.size ≤ v5.heap.size + 1 by omega) (store2 HC7.out _ _) ((setCells_other _ _ _ _ (show v5.heap.size ≠ v5.heap.size + 1 by omega)).trans HL7.out))
                go_wp2_with fail
                go_meet
                case rel => exact HLD.out
              refine AllReadyH.cons rfl (fun K hK => ?_) AllReadyH.nil
              go_simp
              have HC6 : Hid ((v5.alloc (.cells #[.slice none 0 0, .slice none 0 0] 27)).heap[v5.heap.size]? = some (.cells #[.slice none 0 0, .slice none 0 0] 27 (0, 0))) := Lib.hid (heap_new' _ _ _ (by first | rfl | simp))
              refine hK.out _ _ (KEEP.out _ (ext_alloc (ext_trans (ext_trans (ext_trans (ext_trans (ext_trans (ext_drew (Below.refl wa.heap.size wa)) Gv1.out) Gv2.out) Gv3.out) Gv4.out) Gv5.out) (.cells #[.slice none 0 0, .slice none 0 0] 27))) (fun hHeld => ?_)
              clear hK K
              try simp only [Act.put, List.setIfInBounds_toArray, List.set_cons_zero, List.set_cons_succ]
              refine wpAnyH_ready (rs := [12]) (by kernel_rfl) (by simp) ?_
              refine AllReadyH.cons rfl (fun K hK => ?_) AllReadyH.nil
              go_simp
              have HC7 : Hid (((v5.alloc (.cells #[.slice none 0 0, .slice none 0 0] 27)).alloc (.cells ((plainC (opsL (1 + p) 6 x y) []).lines.flatMap cellsL).toArray 41)).heap[v5.heap.size]? = some (.cells #[.slice none 0 0, .slice none 0 0] 27 (0, 0))) := Lib.hid ((Lib.alloc_old _ _ _ (Array.getElem?_eq_some_iff.1 HC6.out).1).trans HC6.out)
              have HL7 : Hid (((v5.alloc (.cells #[.slice none 0 0, .slice none 0 0] 27)).alloc (.cells ((plainC (opsL (1 + p) 6 x y) []).lines.flatMap cellsL).toArray 41)).heap[v5.heap.size + 1]? = some (.cells ((plainC (opsL (1 + p) 6 x y) []).lines.flatMap cellsL).toArray 41 (0, 0))) := Lib.hid (heap_new' _ _ _ (by first | rfl | simp))
              refine hK.out _ _ (KEEP.out _ (ext_alloc (ext_alloc (ext_trans (ext_trans (ext_trans (ext_trans (ext_trans (ext_drew (Below.refl wa.heap.size wa)) Gv1.out) Gv2.out) Gv3.out) Gv4.out) Gv5.out) (.cells #[.slice none 0 0, .slice none 0 0] 27)) (.cells ((plainC (opsL (1 + p) 6 x y) []).lines.flatMap cellsL).toArray 41))) (fun hHeld => ?_)
              clear hK K
              try simp only [Act.put, List.setIfInBounds_toArray, List.set_cons_zero, List.set_cons_succ]
              refine wpAnyH_take (i := 13) (v := ?_) rfl (by kernel_rfl) (by kernel_rfl) (by kernel_rfl) (fun _ _ _ h => h) (Or.inl ⟨by rfl, ?hy⟩) (KEEP.out _ (ext_alloc (ext_alloc (ext_trans (ext_trans (ext_trans (ext_trans (ext_trans (ext_drew (Below.refl wa.heap.size wa)) Gv1.out) Gv2.out) Gv3.out) Gv4.out) Gv5.out) (.cells #[.slice none 0 0, .slice none 0 0] 27)) (.cells ((plainC (opsL (1 + p) 6 x y) []).lines.flatMap cellsL).toArray 41))) ?_
              case hy => (intro w hSw; go_simp; try (with_reducible rfl))
              try simp only [Act.put, List.setIfInBounds_toArray, List.set_cons_zero, List.set_cons_succ]
              refine wpAnyH_ready (rs := [15]) (by kernel_rfl) (by simp) ?_
              refine AllReadyH.cons rfl (fun K hK => ?_) AllReadyH.nil
              rw [if_pos (by rfl)]
              refine wp_store_mid 27 _ _ rfl (v5.heap.size) 0 #[.slice none 0 0, .slice (some ⟨v5.heap.size + 1, 0, none⟩) 5 5] rfl rfl (there2 HC7.out) infoCode (by simp [Value.oneCell']) ?_
              have BL := Lib.hid (setCells_below (b := v5.heap.size) [.slice none 0 0, .slice (some ⟨v5.heap.size + 1, 0, none⟩) 5 5] 0 _ _ (ext_alloc (ext_alloc (ext_trans (ext_trans (ext_trans (ext_trans (ext_trans (ext_drew (Below.refl wa.heap.size wa)) Gv1.out) Gv2.out) Gv3.out) Gv4.out) Gv5.out) (.cells #[.slice none 0 0, .slice none 0 0] 27)) (.cells ((plainC (opsL (1 + p) 6 x y) []).lines.flatMap cellsL).toArray 41)) (show wa.heap.size ≤ v5.heap.size by omega))
              refine hK.out _ _ (KEEP.out _ BL.out) (fun hHeld => ?_)
              clear hK K
              try simp only [Act.put, List.setIfInBounds_toArray, List.set_cons_zero, List.set_cons_succ]
              refine wpAnyH_done (by kernel_rfl) ?_ _
              have HLD := Lib.hid (opr_mk (s10 := .pointer (some ⟨v5.heap.size, 0, none⟩)) 6 G1.out HB.out BL.out zb rfl (show wa.heap.size ≤ v5.heap.size by omega) (store2 HC7.out _ _) ((setCells_other _ _ _ _ (show v5.heap.size + 1 ≠ v5.heap.size by omega)).trans HL7.out))
              go_wp2_with fail
              go_meet
              case rel => exact HLD.out
            refine AllReadyH.cons rfl (fun K hK => ?_) AllReadyH.nil
            go_simp
            have HC5 : Hid ((v4.alloc (.cells #[.slice none 0 0, .slice none 0 0] 27)).heap[v4.heap.size]? = some (.cells #[.slice none 0 0, .slice none 0 0] 27 (0, 0))) := Lib.hid (heap_new' _ _ _ (by first | rfl | simp))
            refine hK.out _ _ (KEEP.out _ (ext_alloc (ext_trans (ext_trans (ext_trans (ext_trans (ext_drew (Below.refl wa.heap.size wa)) Gv1.out) Gv2.out) Gv3.out) Gv4.out) (.cells #[.slice none 0 0, .slice none 0 0] 27))) (fun hHeld => ?_)
            clear hK K
            try simp only [Act.put, List.setIfInBounds_toArray, List.set_cons_zero, List.set_cons_succ]
            refine wpAnyH_ready (rs := [11]) (by kernel_rfl) (by simp) ?_
            refine AllReadyH.cons rfl (fun K hK => ?_) AllReadyH.nil
            go_simp
            refine (line_any _ _ _ _ _ _ _).mono ?_; rintro e v6 ⟨rfl, gv6⟩
            have Zv6 : v4.heap.size + 1 ≤ v6.heap.size := by have := gv6.size; (try simp at this); omega
            have Gv6 := Lib.hid gv6; clear gv6
            have HC6 : Hid (v6.heap[v4.heap.size]? = some (.cells #[.slice none 0 0, .slice none 0 0] 27 (0, 0))) := Lib.hid ((Gv6.out.block _ (Array.getElem?_eq_some_iff.1 HC5.out).1).trans HC5.out)
            refine hK.out _ _ (KEEP.out _ (ext_trans (ext_alloc (ext_trans (ext_trans (ext_trans (ext_trans (ext_drew (Below.refl wa.heap.size wa)) Gv1.out) Gv2.out) Gv3.out) Gv4.out) (.cells #[.slice none 0 0, .slice none 0 0] 27)) Gv6.out)) (fun hHeld => ?_)
            clear hK K
            try simp only [Act.put, List.setIfInBounds_toArray, List.set_cons_zero, List.set_cons_succ]
            refine wpAnyH_ready (rs := [12]) (by kernel_rfl) (by simp) ?_
            refine AllReadyH.cons rfl (fun K hK => ?_) AllReadyH.nil
            go_simp
            have HC7 : Hid ((v6.alloc (.cells ((plainC (opsL (1 + p) 6 x y) []).lines.flatMap cellsL).toArray 41)).heap[v4.heap.size]? = some (.cells #[.slice none 0 0, .slice none 0 0] 27 (0, 0))) := Lib.hid ((Lib.alloc_old _ _ _ (Array.getElem?_eq_some_iff.1 HC6.out).1).trans HC6.out)
            have HL7 : Hid ((v6.alloc (.cells ((plainC (opsL (1 + p) 6 x y) []).lines.flatMap cellsL).toArray 41)).heap[v6.heap.size]? = some (.cells ((plainC (opsL (1 + p) 6 x y) []).lines.flatMap cellsL).toArray 41 (0, 0))) := Lib.hid (heap_new' _ _ _ (by first | rfl | simp))
            refine hK.out _ _ (KEEP.out _ (ext_alloc (ext_trans (ext_alloc (ext_trans (ext_trans (ext_trans (ext_trans (ext_drew (Below.refl wa.heap.size wa)) Gv1.out) Gv2.out) Gv3.out) Gv4.out) (.cells #[.slice none 0 0, .slice none 0 0] 27)) Gv6.out) (.cells ((plainC (opsL (1 + p) 6 x y) []).lines.flatMap cellsL).toArray 41))) (fun hHeld => ?_)
            clear hK K
            try simp only [Act.put, List.setIfInBounds_toArray, List.set_cons_zero, List.set_cons_succ]
            refine wpAnyH_take (i := 13) (v := ?_) rfl (by kernel_rfl) (by kernel_rfl) (by kernel_rfl) (fun _ _ _ h => h) (Or.inl ⟨by rfl, ?hy⟩) (KEEP.out _ (ext_alloc (ext_trans (ext_alloc (ext_trans (ext_trans (ext_trans (ext_trans (ext_drew (Below.refl wa.heap.size wa)) Gv1.out) Gv2.out) Gv3.out) Gv4.out) (.cells #[.slice none 0 0, .slice none 0 0] 27)) Gv6.out) (.cells ((plainC (opsL (1 + p) 6 x y) []).lines.flatMap cellsL).toArray 41))) ?_
            case hy => (intro w hSw; go_simp; try (with_reducible rfl))
            try simp only [Act.put, List.setIfInBounds_toArray, List.set_cons_zero, List.set_cons_succ]
            refine wpAnyH_ready (rs := [15]) (by kernel_rfl) (by simp) ?_
            refine AllReadyH.cons rfl (fun K hK => ?_) AllReadyH.nil
            rw [if_pos (by rfl)]
            refine wp_store_mid 27 _ _ rfl (v4.heap.size) 0 #[.slice none 0 0, .slice (some ⟨v6.heap.size, 0, none⟩) 5 5] rfl rfl (there2 HC7.out) infoCode (by simp [Value.oneCell']) ?_
            have BL := Lib.hid (setCells_below (b := v4.heap.size) [.slice none 0 0, .slice (some ⟨v6.heap.size, 0, none⟩) 5 5] 0 _ _ (ext_alloc (ext_trans (ext_alloc (ext_trans (ext_trans (ext_trans (ext_trans (ext_drew (Below.refl wa.heap.size wa)) Gv1.out) Gv2.out) Gv3.out) Gv4.out) (.cells #[.slice none 0 0, .slice none 0 0] 27)) Gv6.out) (.cells ((plainC (opsL (1 + p) 6 x y) []).lines.flatMap cellsL).toArray 41)) (show wa.heap.size ≤ v4.heap.size by omega))
            refine hK.out _ _ (KEEP.out _ BL.out) (fun hHeld => ?_)
            clear hK K
            try simp only [Act.put, List.setIfInBounds_toArray, List.set_cons_zero, List.set_cons_succ]
            refine wpAnyH_done (by kernel_rfl) ?_ _
            have HLD := Lib.hid (opr_mk (s10 := .pointer (some ⟨v4.heap.size, 0, none⟩)) 6 G1.out HB.out BL.out zb rfl (show wa.heap.size ≤ v4.heap.size by omega) (store2 HC7.out _ _) ((setCells_other _ _ _ _ (show v6.heap.size ≠ v4.heap.size by omega)).trans HL7.out))
            go_wp2_with fail
            go_meet
            case rel => exact HLD.out
          refine AllReadyH.cons rfl (fun K hK => ?_) AllReadyH.nil
          go_simp
          have HC4 : Hid ((v3.alloc (.cells #[.slice none 0 0, .slice none 0 0] 27)).heap[v3.heap.size]? = some (.cells #[.slice none 0 0, .slice none 0 0] 27 (0, 0))) := Lib.hid (heap_new' _ _ _ (by first | rfl | simp))
          refine hK.out _ _ (KEEP.out _ (ext_alloc (ext_trans (ext_trans (ext_trans (ext_drew (Below.refl wa.heap.size wa)) Gv1.out) Gv2.out) Gv3.out) (.cells #[.slice none 0 0, .slice none 0 0] 27))) (fun hHeld => ?_)
          clear hK K
          try simp only [Act.put, List.setIfInBounds_toArray, List.set_cons_zero, List.set_cons_succ]
          refine wpAnyH_ready (rs := [9]) (by kernel_rfl) (by simp) ?_
          refine AllReadyH.cons rfl (fun K hK => ?_) AllReadyH.nil
          go_simp
          refine (line_any _ _ _ _ _ _ _).mono ?_; rintro e v5 ⟨rfl, gv5⟩
          have Zv5 : v3.heap.size + 1 ≤ v5.heap.size := by have := gv5.size; (try simp at this); omega
          have Gv5 := Lib.hid gv5; clear gv5
          have HC5 : Hid (v5.heap[v3.heap.size]? = some (.cells #[.slice none 0 0, .slice none 0 0] 27 (0, 0))) := Lib.hid ((Gv5.out.block _ (Array.getElem?_eq_some_iff.1 HC4.out).1).trans HC4.out)
          refine hK.out _ _ (KEEP.out _ (ext_trans (ext_alloc (ext_trans (ext_trans (ext_trans (ext_drew (Below.refl wa.heap.size wa)) Gv1.out) Gv2.out) Gv3.out) (.cells #[.slice none 0 0, .slice none 0 0] 27)) Gv5.out)) (fun hHeld => ?_)
          clear hK K
          try simp only [Act.put, List.setIfInBounds_toArray, List.set_cons_zero, List.set_cons_succ]
          refine wpAnyH_ready (rs := [11]) (by kernel_rfl) (by simp) ?_
          refine AllReadyH.cons rfl (fun K hK => ?_) AllReadyH.nil
          go_simp
          refine (line_any _ _ _ _ _ _ _).mono ?_; rintro e v6 ⟨rfl, gv6⟩
          have Zv6 : v5.heap.size ≤ v6.heap.size := by have := gv6.size; (try simp at this); omega
          have Gv6 := Lib.hid gv6; clear gv6
          have HC6 : Hid (v6.heap[v3.heap.size]? = some (.cells #[.slice none 0 0, .slice none 0 0] 27 (0, 0))) := Lib.hid ((Gv6.out.block _ (Array.getElem?_eq_some_iff.1 HC5.out).1).trans HC5.out)
          refine hK.out _ _ (KEEP.out _ (ext_trans (ext_trans (ext_alloc (ext_trans (ext_trans (ext_trans (ext_drew (Below.refl wa.heap.size wa)) Gv1.out) Gv2.out) Gv3.out) (.cells #[.slice none 0 0, .slice none 0 0] 27)) Gv5.out) Gv6.out)) (fun hHeld => ?_)
          clear hK K
          try simp only [Act.put, List.setIfInBounds_toArray, List.set_cons_zero, List.set_cons_succ]
          refine wpAnyH_ready (rs := [12]) (by kernel_rfl) (by simp) ?_
          refine AllReadyH.cons rfl (fun K hK => ?_) AllReadyH.nil
          go_simp
          have HC7 : Hid ((v6.alloc (.cells ((plainC (opsL (1 + p) 6 x y) []).lines.flatMap cellsL).toArray 41)).heap[v3.heap.size]? = some (.cells #[.slice none 0 0, .slice none 0 0] 27 (0, 0))) := Lib.hid ((Lib.alloc_old _ _ _ (Array.getElem?_eq_some_iff.1 HC6.out).1).trans HC6.out)
          have HL7 : Hid ((v6.alloc (.cells ((plainC (opsL (1 + p) 6 x y) []).lines.flatMap cellsL).toArray 41)).heap[v6.heap.size]? = some (.cells ((plainC (opsL (1 + p) 6 x y) []).lines.flatMap cellsL).toArray 41 (0, 0))) := Lib.hid (heap_new' _ _ _ (by first | rfl | simp))
          refine hK.out _ _ (KEEP.out _ (ext_alloc (ext_trans (ext_trans (ext_alloc (ext_trans (ext_trans (ext_trans (ext_drew (Below.refl wa.heap.size wa)) Gv1.out) Gv2.out) Gv3.out) (.cells #[.slice none 0 0, .slice none 0 0] 27)) Gv5.out) Gv6.out) (.cells ((plainC (opsL (1 + p) 6 x y) []).lines.flatMap cellsL).toArray 41))) (fun hHeld => ?_)
          clear hK K
          try simp only [Act.put, List.setIfInBounds_toArray, List.set_cons_zero, List.set_cons_succ]
          refine wpAnyH_take (i := 13) (v := ?_) rfl (by kernel_rfl) (by kernel_rfl) (by kernel_rfl) (fun _ _ _ h => h) (Or.inl ⟨by rfl, ?hy⟩) (KEEP.out _ (ext_alloc (ext_trans (ext_trans (ext_alloc (ext_trans (ext_trans (ext_trans (ext_drew (Below.refl wa.heap.size wa)) Gv1.out) Gv2.out) Gv3.out) (.cells #[.slice none 0 0, .slice none 0 0] 27)) Gv5.out) Gv6.out) (.cells ((plainC (opsL (1 + p) 6 x y) []).lines.flatMap cellsL).toArray 41))) ?_
          case hy => (intro w hSw; go_simp; try (with_reducible rfl))
          try simp only [Act.put, List.setIfInBounds_toArray, List.set_cons_zero, List.set_cons_succ]
          refine wpAnyH_ready (rs := [15]) (by kernel_rfl) (by simp) ?_
          refine AllReadyH.cons rfl (fun K hK => ?_) AllReadyH.nil
          rw [if_pos (by rfl)]
          refine wp_store_mid 27 _ _ rfl (v3.heap.size) 0 #[.slice none 0 0, .slice (some ⟨v6.heap.size, 0, none⟩) 5 5] rfl rfl (there2 HC7.out) infoCode (by simp [Value.oneCell']) ?_
          have BL := Lib.hid (setCells_below (b := v3.heap.size) [.slice none 0 0, .slice (some ⟨v6.heap.size, 0, none⟩) 5 5] 0 _ _ (ext_alloc (ext_trans (ext_trans (ext_alloc (ext_trans (ext_trans (ext_trans (ext_drew (Below.refl wa.heap.size wa)) Gv1.out) Gv2.out) Gv3.out) (.cells #[.slice none 0 0, .slice none 0 0] 27)) Gv5.out) Gv6.out) (.cells ((plainC (opsL (1 + p) 6 x y) []).lines.flatMap cellsL).toArray 41)) (show wa.heap.size ≤ v3.heap.size by omega))
          refine hK.out _ _ (KEEP.out _ BL.out) (fun hHeld => ?_)
          clear hK K
          try simp only [Act.put, List.setIfInBounds_toArray, List.set_cons_zero, List.set_cons_succ]
          refine wpAnyH_done (by kernel_rfl) ?_ _
          have HLD := Lib.hid (opr_mk (s10 := .pointer (some ⟨v3.heap.size, 0, none⟩)) 6 G1.out HB.out BL.out zb rfl (show wa.heap.size ≤ v3.heap.size by omega) (store2 HC7.out _ _) ((setCells_other _ _ _ _ (show v6.heap.size ≠ v3.heap.size by omega)).trans HL7.out))
          go_wp2_with fail
          go_meet
          case rel => exact HLD.out
        refine AllReadyH.cons rfl (fun K hK => ?_) AllReadyH.nil
        go_simp
        have HC3 : Hid ((v2.alloc (.cells #[.slice none 0 0, .slice none 0 0] 27)).heap[v2.heap.size]? = some (.cells #[.slice none 0 0, .slice none 0 0] 27 (0, 0))) := Lib.hid (heap_new' _ _ _ (by first | rfl | simp))
        refine hK.out _ _ (KEEP.out _ (ext_alloc (ext_trans (ext_trans (ext_drew (Below.refl wa.heap.size wa)) Gv1.out) Gv2.out) (.cells #[.slice none 0 0, .slice none 0 0] 27))) (fun hHeld => ?_)
        clear hK K
        try simp only [Act.put, List.setIfInBounds_toArray, List.set_cons_zero, List.set_cons_succ]
        refine wpAnyH_ready (rs := [7]) (by kernel_rfl) (by simp) ?_
        refine AllReadyH.cons rfl (fun K hK => ?_) AllReadyH.nil
        go_simp
        refine (line_any _ _ _ _ _ _ _).mono ?_; rintro e v4 ⟨rfl, gv4⟩
        have Zv4 : v2.heap.size + 1 ≤ v4.heap.size := by have := gv4.size; (try simp at this); omega
        have Gv4 := Lib.hid gv4; clear gv4
        have HC4 : Hid (v4.heap[v2.heap.size]? = some (.cells #[.slice none 0 0, .slice none 0 0] 27 (0, 0))) := Lib.hid ((Gv4.out.block _ (Array.getElem?_eq_some_iff.1 HC3.out).1).trans HC3.out)
        refine hK.out _ _ (KEEP.out _ (ext_trans (ext_alloc (ext_trans (ext_trans (ext_drew (Below.refl wa.heap.size wa)) Gv1.out) Gv2.out) (.cells #[.slice none 0 0, .slice none 0 0] 27)) Gv4.out)) (fun hHeld => ?_)
        clear hK K
        try simp only [Act.put, List.setIfInBounds_toArray, List.set_cons_zero, List.set_cons_succ]
        refine wpAnyH_ready (rs := [9]) (by kernel_rfl) (by simp) ?_
        refine AllReadyH.cons rfl (fun K hK => ?_) AllReadyH.nil
        go_simp
        refine (line_any _ _ _ _ _ _ _).mono ?_; rintro e v5 ⟨rfl, gv5⟩
        have Zv5 : v4.heap.size ≤ v5.heap.size := by have := gv5.size; (try simp at this); omega
        have Gv5 := Lib.hid gv5; clear gv5
        have HC5 : Hid (v5.heap[v2.heap.size]? = some (.cells #[.slice none 0 0, .slice none 0 0] 27 (0, 0))) := Lib.hid ((Gv5.out.block _ (Array.getElem?_eq_some_iff.1 HC4.out).1).trans HC4.out)
        refine hK.out _ _ (KEEP.out _ (ext_trans (ext_trans (ext_alloc (ext_trans (ext_trans (ext_drew (Below.refl wa.heap.size wa)) Gv1.out) Gv2.out) (.cells #[.slice none 0 0, .slice none 0 0] 27)) Gv4.out) Gv5.out)) (fun hHeld => ?_)
        clear hK K
        try simp only [Act.put, List.setIfInBounds_toArray, List.set_cons_zero, List.set_cons_succ]
        refine wpAnyH_ready (rs := [11]) (by kernel_rfl) (by simp) ?_
        refine AllReadyH.cons rfl (fun K hK => ?_) AllReadyH.nil
        go_simp
        refine (line_any _ _ _ _ _ _ _).mono ?_; rintro e v6 ⟨rfl, gv6⟩
        have Zv6 : v5.heap.size ≤ v6.heap.size := by have := gv6.size; (try simp at this); omega
        have Gv6 := Lib.hid gv6; clear gv6
        have HC6 : Hid (v6.heap[v2.heap.size]? = some (.cells #[.slice none 0 0, .slice none 0 0] 27 (0, 0))) := Lib.hid ((Gv6.out.block _ (Array.getElem?_eq_some_iff.1 HC5.out).1).trans HC5.out)
        refine hK.out _ _ (KEEP.out _ (ext_trans (ext_trans (ext_trans (ext_alloc (ext_trans (ext_trans (ext_drew (Below.refl wa.heap.size wa)) Gv1.out) Gv2.out) (.cells #[.slice none 0 0, .slice none 0 0] 27)) Gv4.out) Gv5.out) Gv6.out)) (fun hHeld => ?_)
        clear hK K
        try simp only [Act.put, List.setIfInBounds_toArray, List.set_cons_zero, List.set_cons_succ]
        refine wpAnyH_ready (rs := [12]) (by kernel_rfl) (by simp) ?_
        refine AllReadyH.cons rfl (fun K hK => ?_) AllReadyH.nil
        go_simp
        have HC7 : Hid ((v6.alloc (.cells ((plainC (opsL (1 + p) 6 x y) []).lines.flatMap cellsL).toArray 41)).heap[v2.heap.size]? = some (.cells #[.slice none 0 0, .slice none 0 0] 27 (0, 0))) := Lib.hid ((Lib.alloc_old _ _ _ (Array.getElem?_eq_some_iff.1 HC6.out).1).trans HC6.out)
        have HL7 : Hid ((v6.alloc (.cells ((plainC (opsL (1 + p) 6 x y) []).lines.flatMap cellsL).toArray 41)).heap[v6.heap.size]? = some (.cells ((plainC (opsL (1 + p) 6 x y) []).lines.flatMap cellsL).toArray 41 (0, 0))) := Lib.hid (heap_new' _ _ _ (by first | rfl | simp))
        refine hK.out _ _ (KEEP.out _ (ext_alloc (ext_trans (ext_trans (ext_trans (ext_alloc (ext_trans (ext_trans (ext_drew (Below.refl wa.heap.size wa)) Gv1.out) Gv2.out) (.cells #[.slice none 0 0, .slice none 0 0] 27)) Gv4.out) Gv5.out) Gv6.out) (.cells ((plainC (opsL (1 + p) 6 x y) []).lines.flatMap cellsL).toArray 41))) (fun hHeld => ?_)
        clear hK K
        try simp only [Act.put, List.setIfInBounds_toArray, List.set_cons_zero, List.set_cons_succ]
        refine wpAnyH_take (i := 13) (v := ?_) rfl (by kernel_rfl) (by kernel_rfl) (by kernel_rfl) (fun _ _ _ h => h) (Or.inl ⟨by rfl, ?hy⟩) (KEEP.out _ (ext_alloc (ext_trans (ext_trans (ext_trans (ext_alloc (ext_trans (ext_trans (ext_drew (Below.refl wa.heap.size wa)) Gv1.out) Gv2.out) (.cells #[.slice none 0 0, .slice none 0 0] 27)) Gv4.out) Gv5.out) Gv6.out) (.cells ((plainC (opsL (1 + p) 6 x y) []).lines.flatMap cellsL).toArray 41))) ?_
        case hy => (intro w hSw; go_simp; try (with_reducible rfl))
        try simp only [Act.put, List.setIfInBounds_toArray, List.set_cons_zero, List.set_cons_succ]
        refine wpAnyH_ready (rs := [15]) (by kernel_rfl) (by simp) ?_
        refine AllReadyH.cons rfl (fun K hK => ?_) AllReadyH.nil
        rw [if_pos (by rfl)]
        refine wp_store_mid 27 _ _ rfl (v2.heap.size) 0 #[.slice none 0 0, .slice (some ⟨v6.heap.size, 0, none⟩) 5 5] rfl rfl (there2 HC7.out) infoCode (by simp [Value.oneCell']) ?_
        have BL := Lib.hid (setCells_below (b := v2.heap.size) [.slice none 0 0, .slice (some ⟨v6.heap.size, 0, none⟩) 5 5] 0 _ _ (ext_alloc (ext_trans (ext_trans (ext_trans (ext_alloc (ext_trans (ext_trans (ext_drew (Below.refl wa.heap.size wa)) Gv1.out) Gv2.out) (.cells #[.slice none 0 0, .slice none 0 0] 27)) Gv4.out) Gv5.out) Gv6.out) (.cells ((plainC (opsL (1 + p) 6 x y) []).lines.flatMap cellsL).toArray 41)) (show wa.heap.size ≤ v2.heap.size by omega))
        refine hK.out _ _ (KEEP.out _ BL.out) (fun hHeld => ?_)
        clear hK K
        try simp only [Act.put, List.setIfInBounds_toArray, List.set_cons_zero, List.set_cons_succ]
        refine wpAnyH_done (by kernel_rfl) ?_ _
        have HLD := Lib.hid (opr_mk (s10 := .pointer (some ⟨v2.heap.size, 0, none⟩)) 6 G1.out HB.out BL.out zb rfl (show wa.heap.size ≤ v2.heap.size by omega) (store2 HC7.out _ _) ((setCells_other _ _ _ _ (show v6.heap.size ≠ v2.heap.size by omega)).trans HL7.out))
        go_wp2_with fail
        go_meet
        case rel => exact HLD.out
      refine AllReadyH.cons rfl (fun K hK => ?_) AllReadyH.nil
      go_simp
      have HC2 : Hid ((v1.alloc (.cells #[.slice none 0 0, .slice none 0 0] 27)).heap[v1.heap.size]? = some (.cells #[.slice none 0 0, .slice none 0 0] 27 (0, 0))) := Lib.hid (heap_new' _ _ _ (by first | rfl | simp))
      refine hK.out _ _ (KEEP.out _ (ext_alloc (ext_trans (ext_drew (Below.refl wa.heap.size wa)) Gv1.out) (.cells #[.slice none 0 0, .slice none 0 0] 27))) (fun hHeld => ?_)
      clear hK K
      try simp only [Act.put, List.setIfInBounds_toArray, List.set_cons_zero, List.set_cons_succ]
      refine wpAnyH_ready (rs := [5]) (by kernel_rfl) (by simp) ?_
      refine AllReadyH.cons rfl (fun K hK => ?_) AllReadyH.nil
      go_simp
      refine (line_any _ _ _ _ _ _ _).mono ?_; rintro e v3 ⟨rfl, gv3⟩
      have Zv3 : v1.heap.size + 1 ≤ v3.heap.size := by have := gv3.size; (try simp at this); omega
      have Gv3 := Lib.hid gv3; clear gv3
      have HC3 : Hid (v3.heap[v1.heap.size]? = some (.cells #[.slice none 0 0, .slice none 0 0] 27 (0, 0))) := Lib.hid ((Gv3.out.block _ (Array.getElem?_eq_some_iff.1 HC2.out).1).trans HC2.out)
      refine hK.out _ _ (KEEP.out _ (ext_trans (ext_alloc (ext_trans (ext_drew (Below.refl wa.heap.size wa)) Gv1.out) (.cells #[.slice none 0 0, .slice none 0 0] 27)) Gv3.out)) (fun hHeld => ?_)
      clear hK K
      try simp only [Act.put, List.setIfInBounds_toArray, List.set_cons_zero, List.set_cons_succ]
      refine wpAnyH_ready (rs := [7]) (by kernel_rfl) (by simp) ?_
      refine AllReadyH.cons rfl (fun K hK => ?_) AllReadyH.nil
      go_simp
      refine (line_any _ _ _ _ _ _ _).mono ?_; rintro e v4 ⟨rfl, gv4⟩
      have Zv4 : v3.heap.size ≤ v4.heap.size := by have := gv4.size; (try simp at this); omega
      have Gv4 := Lib.hid gv4; clear gv4
      have HC4 : Hid (v4.heap[v1.heap.size]? = some (.cells #[.slice none 0 0, .slice none 0 0] 27 (0, 0))) := Lib.hid ((Gv4.out.block _ (Array.getElem?_eq_some_iff.1 HC3.out).1).trans HC3.out)
      refine hK.out _ _ (KEEP.out _ (ext_trans (ext_trans (ext_alloc (ext_trans (ext_drew (Below.refl wa.heap.size wa)) Gv1.out) (.cells #[.slice none 0 0, .slice none 0 0] 27)) Gv3.out) Gv4.out)) (fun hHeld => ?_)
      clear hK K
      try simp only [Act.put, List.setIfInBounds_toArray, List.set_cons_zero, List.set_cons_succ]
      refine wpAnyH_ready (rs := [9]) (by kernel_rfl) (by simp) ?_
      refine AllReadyH.cons rfl (fun K hK => ?_) AllReadyH.nil
      go_simp
      refine (line_any _ _ _ _ _ _ _).mono ?_; rintro e v5 ⟨rfl, gv5⟩
      have Zv5 : v4.heap.size ≤ v5.heap.size := by have := gv5.size; (try simp at this); omega
      have Gv5 := Lib.hid gv5; clear gv5
      have HC5 : Hid (v5.heap[v1.heap.size]? = some (.cells #[.slice none 0 0, .slice none 0 0] 27 (0, 0))) := Lib.hid ((Gv5.out.block _ (Array.getElem?_eq_some_iff.1 HC4.out).1).trans HC4.out)
      refine hK.out _ _ (KEEP.out _ (ext_trans (ext_trans (ext_trans (ext_alloc (ext_trans (ext_drew (Below.refl wa.heap.size wa)) Gv1.out) (.cells #[.slice none 0 0, .slice none 0 0] 27)) Gv3.out) Gv4.out) Gv5.out)) (fun hHeld => ?_)
      clear hK K
      try simp only [Act.put, List.setIfInBounds_toArray, List.set_cons_zero, List.set_cons_succ]
      refine wpAnyH_ready (rs := [11]) (by kernel_rfl) (by simp) ?_
      refine AllReadyH.cons rfl (fun K hK => ?_) AllReadyH.nil
      go_simp
      refine (line_any _ _ _ _ _ _ _).mono ?_; rintro e v6 ⟨rfl, gv6⟩
      have Zv6 : v5.heap.size ≤ v6.heap.size := by have := gv6.size; (try simp at this); omega
      have Gv6 := Lib.hid gv6; clear gv6
      have HC6 : Hid (v6.heap[v1.heap.size]? = some (.cells #[.slice none 0 0, .slice none 0 0] 27 (0, 0))) := Lib.hid ((Gv6.out.block _ (Array.getElem?_eq_some_iff.1 HC5.out).1).trans HC5.out)
      refine hK.out _ _ (KEEP.out _ (ext_trans (ext_trans (ext_trans (ext_trans (ext_alloc (ext_trans (ext_drew (Below.refl wa.heap.size wa)) Gv1.out) (.cells #[.slice none 0 0, .slice none 0 0] 27)) Gv3.out) Gv4.out) Gv5.out) Gv6.out)) (fun hHeld => ?_)
      clear hK K
      try simp only [Act.put, List.setIfInBounds_toArray, List.set_cons_zero, List.set_cons_succ]
      refine wpAnyH_ready (rs := [12]) (by kernel_rfl) (by simp) ?_
      refine AllReadyH.cons rfl (fun K hK => ?_) AllReadyH.nil
      go_simp
      have HC7 : Hid ((v6.alloc (.cells ((plainC (opsL (1 + p) 6 x y) []).lines.flatMap cellsL).toArray 41)).heap[v1.heap.size]? = some (.cells #[.slice none 0 0, .slice none 0 0] 27 (0, 0))) := Lib.hid ((Lib.alloc_old _ _ _ (Array.getElem?_eq_some_iff.1 HC6.out).1).trans HC6.out)
      have HL7 : Hid ((v6.alloc (.cells ((plainC (opsL (1 + p) 6 x y) []).lines.flatMap cellsL).toArray 41)).heap[v6.heap.size]? = some (.cells ((plainC (opsL (1 + p) 6 x y) []).lines.flatMap cellsL).toArray 41 (0, 0))) := Lib.hid (heap_new' _ _ _ (by first | rfl | simp))
      refine hK.out _ _ (KEEP.out _ (ext_alloc (ext_trans (ext_trans (ext_trans (ext_trans (ext_alloc (ext_trans (ext_drew (Below.refl wa.heap.size wa)) Gv1.out) (.cells #[.slice none 0 0, .slice none 0 0] 27)) Gv3.out) Gv4.out) Gv5.out) Gv6.out) (.cells ((plainC (opsL (1 + p) 6 x y) []).lines.flatMap cellsL).toArray 41))) (fun hHeld => ?_)
      clear hK K
      try simp only [Act.put, List.setIfInBounds_toArray, List.set_cons_zero, List.set_cons_succ]
      refine wpAnyH_take (i := 13) (v := ?_) rfl (by kernel_rfl) (by kernel_rfl) (by kernel_rfl) (fun _ _ _ h => h) (Or.inl ⟨by rfl, ?hy⟩) (KEEP.out _ (ext_alloc (ext_trans (ext_trans (ext_trans (ext_trans (ext_alloc (ext_trans (ext_drew (Below.refl wa.heap.size wa)) Gv1.out) (.cells #[.slice none 0 0, .slice none 0 0] 27)) Gv3.out) Gv4.out) Gv5.out) Gv6.out) (.cells ((plainC (opsL (1 + p) 6 x y) []).lines.flatMap cellsL).toArray 41))) ?_
      case hy => (intro w hSw; go_simp; try (with_reducible rfl))
      try simp only [Act.put, List.setIfInBounds_toArray, List.set_cons_zero, List.set_cons_succ]
      refine wpAnyH_ready (rs := [15]) (by kernel_rfl) (by simp) ?_
      refine AllReadyH.cons rfl (fun K hK => ?_) AllReadyH.nil
      rw [if_pos (by rfl)]
      refine wp_store_mid 27 _ _ rfl (v1.heap.size) 0 #[.slice none 0 0, .slice (some ⟨v6.heap.size, 0, none⟩) 5 5] rfl rfl (there2 HC7.out) infoCode (by simp [Value.oneCell']) ?_
      have BL := Lib.hid (setCells_below (b := v1.heap.size) [.slice none 0 0, .slice (some ⟨v6.heap.size, 0, none⟩) 5 5] 0 _ _ (ext_alloc (ext_trans (ext_trans (ext_trans (ext_trans (ext_alloc (ext_trans (ext_drew (Below.refl wa.heap.size wa)) Gv1.out) (.cells #[.slice none 0 0, .slice none 0 0] 27)) Gv3.out) Gv4.out) Gv5.out) Gv6.out) (.cells ((plainC (opsL (1 + p) 6 x y) []).lines.flatMap cellsL).toArray 41)) (show wa.heap.size ≤ v1.heap.size by omega))
      refine hK.out _ _ (KEEP.out _ BL.out) (fun hHeld => ?_)
      clear hK K
      try simp only [Act.put, List.setIfInBounds_toArray, List.set_cons_zero, List.set_cons_succ]
      refine wpAnyH_done (by kernel_rfl) ?_ _
      have HLD := Lib.hid (opr_mk (s10 := .pointer (some ⟨v1.heap.size, 0, none⟩)) 6 G1.out HB.out BL.out zb rfl (show wa.heap.size ≤ v1.heap.size by omega) (store2 HC7.out _ _) ((setCells_other _ _ _ _ (show v6.heap.size ≠ v1.heap.size by omega)).trans HL7.out))
      go_wp2_with fail
      go_meet
      case rel => exact HLD.out
    refine AllReadyH.cons rfl (fun K hK => ?_) AllReadyH.nil
    go_simp
    have HC1 : Hid ((wa.drew.alloc (.cells #[.slice none 0 0, .slice none 0 0] 27)).heap[wa.heap.size]? = some (.cells #[.slice none 0 0, .slice none 0 0] 27 (0, 0))) := Lib.hid (heap_new' _ _ _ (by first | rfl | simp))
    refine hK.out _ _ (KEEP.out _ (ext_alloc (ext_drew (Below.refl wa.heap.size wa)) (.cells #[.slice none 0 0, .slice none 0 0] 27))) (fun hHeld => ?_)
    clear hK K
    try simp only [Act.put, List.setIfInBounds_toArray, List.set_cons_zero, List.set_cons_succ]
    refine wpAnyH_ready (rs := [2]) (by kernel_rfl) (by simp) ?_
    refine AllReadyH.cons rfl (fun K hK => ?_) AllReadyH.nil
    go_simp
    refine (line_any _ _ _ _ _ _ _).mono ?_; rintro e v2 ⟨rfl, gv2⟩
    have Zv2 : wa.heap.size + 1 ≤ v2.heap.size := by have := gv2.size; (try simp at this); omega
    have Gv2 := Lib.hid gv2; clear gv2
    have HC2 : Hid (v2.heap[wa.heap.size]? = some (.cells #[.slice none 0 0, .slice none 0 0] 27 (0, 0))) := Lib.hid ((Gv2.out.block _ (Array.getElem?_eq_some_iff.1 HC1.out).1).trans HC1.out)
    refine hK.out _ _ (KEEP.out _ (ext_trans (ext_alloc (ext_drew (Below.refl wa.heap.size wa)) (.cells #[.slice none 0 0, .slice none 0 0] 27)) Gv2.out)) (fun hHeld => ?_)
    clear hK K
    try simp only [Act.put, List.setIfInBounds_toArray, List.set_cons_zero, List.set_cons_succ]
    refine wpAnyH_ready (rs := [5]) (by kernel_rfl) (by simp) ?_
    refine AllReadyH.cons rfl (fun K hK => ?_) AllReadyH.nil
    go_simp
    refine (line_any _ _ _ _ _ _ _).mono ?_; rintro e v3 ⟨rfl, gv3⟩
    have Zv3 : v2.heap.size ≤ v3.heap.size := by have := gv3.size; (try simp at this); omega
    have Gv3 := Lib.hid gv3; clear gv3
    have HC3 : Hid (v3.heap[wa.heap.size]? = some (.cells #[.slice none 0 0, .slice none 0 0] 27 (0, 0))) := Lib.hid ((Gv3.out.block _ (Array.getElem?_eq_some_iff.1 HC2.out).1).trans HC2.out)
    refine hK.out _ _ (KEEP.out _ (ext_trans (ext_trans (ext_alloc (ext_drew (Below.refl wa.heap.size wa)) (.cells #[.slice none 0 0, .slice none 0 0] 27)) Gv2.out) Gv3.out)) (fun hHeld => ?_)
    clear hK K
    try simp only [Act.put, List.setIfInBounds_toArray, List.set_cons_zero, List.set_cons_succ]
    refine wpAnyH_ready (rs := [7]) (by kernel_rfl) (by simp) ?_
    refine AllReadyH.cons rfl (fun K hK => ?_) AllReadyH.nil
    go_simp
    refine (line_any _ _ _ _ _ _ _).mono ?_; rintro e v4 ⟨rfl, gv4⟩
    have Zv4 : v3.heap.size ≤ v4.heap.size := by have := gv4.size; (try simp at this); omega
    have Gv4 := Lib.hid gv4; clear gv4
    have HC4 : Hid (v4.heap[wa.heap.size]? = some (.cells #[.slice none 0 0, .slice none 0 0] 27 (0, 0))) := Lib.hid ((Gv4.out.block _ (Array.getElem?_eq_some_iff.1 HC3.out).1).trans HC3.out)
    refine hK.out _ _ (KEEP.out _ (ext_trans (ext_trans (ext_trans (ext_alloc (ext_drew (Below.refl wa.heap.size wa)) (.cells #[.slice none 0 0, .slice none 0 0] 27)) Gv2.out) Gv3.out) Gv4.out)) (fun hHeld => ?_)
    clear hK K
    try simp only [Act.put, List.setIfInBounds_toArray, List.set_cons_zero, List.set_cons_succ]
    refine wpAnyH_ready (rs := [9]) (by kernel_rfl) (by simp) ?_
    refine AllReadyH.cons rfl (fun K hK => ?_) AllReadyH.nil
    go_simp
    refine (line_any _ _ _ _ _ _ _).mono ?_; rintro e v5 ⟨rfl, gv5⟩
    have Zv5 : v4.heap.size ≤ v5.heap.size := by have := gv5.size; (try simp at this); omega
    have Gv5 := Lib.hid gv5; clear gv5
    have HC5 : Hid (v5.heap[wa.heap.size]? = some (.cells #[.slice none 0 0, .slice none 0 0] 27 (0, 0))) := Lib.hid ((Gv5.out.block _ (Array.getElem?_eq_some_iff.1 HC4.out).1).trans HC4.out)
    refine hK.out _ _ (KEEP.out _ (ext_trans (ext_trans (ext_trans (ext_trans (ext_alloc (ext_drew (Below.refl wa.heap.size wa)) (.cells #[.slice none 0 0, .slice none 0 0] 27)) Gv2.out) Gv3.out) Gv4.out) Gv5.out)) (fun hHeld => ?_)
    clear hK K
    try simp only [Act.put, List.setIfInBounds_toArray, List.set_cons_zero, List.set_cons_succ]
    refine wpAnyH_ready (rs := [11]) (by kernel_rfl) (by simp) ?_
    refine AllReadyH.cons rfl (fun K hK => ?_) AllReadyH.nil
    go_simp
    refine (line_any _ _ _ _ _ _ _).mono ?_; rintro e v6 ⟨rfl, gv6⟩
    have Zv6 : v5.heap.size ≤ v6.heap.size := by have := gv6.size; (try simp at this); omega
    have Gv6 := Lib.hid gv6; clear gv6
    have HC6 : Hid (v6.heap[wa.heap.size]? = some (.cells #[.slice none 0 0, .slice none 0 0] 27 (0, 0))) := Lib.hid ((Gv6.out.block _ (Array.getElem?_eq_some_iff.1 HC5.out).1).trans HC5.out)
    refine hK.out _ _ (KEEP.out _ (ext_trans (ext_trans (ext_trans (ext_trans (ext_trans (ext_alloc (ext_drew (Below.refl wa.heap.size wa)) (.cells #[.slice none 0 0, .slice none 0 0] 27)) Gv2.out) Gv3.out) Gv4.out) Gv5.out) Gv6.out)) (fun hHeld => ?_)
    clear hK K
    try simp only [Act.put, List.setIfInBounds_toArray, List.set_cons_zero, List.set_cons_succ]
    refine wpAnyH_ready (rs := [12]) (by kernel_rfl) (by simp) ?_
    refine AllReadyH.cons rfl (fun K hK => ?_) AllReadyH.nil
    go_simp
    have HC7 : Hid ((v6.alloc (.cells ((plainC (opsL (1 + p) 6 x y) []).lines.flatMap cellsL).toArray 41)).heap[wa.heap.size]? = some (.cells #[.slice none 0 0, .slice none 0 0] 27 (0, 0))) := Lib.hid ((Lib.alloc_old _ _ _ (Array.getElem?_eq_some_iff.1 HC6.out).1).trans HC6.out)
    have HL7 : Hid ((v6.alloc (.cells ((plainC (opsL (1 + p) 6 x y) []).lines.flatMap cellsL).toArray 41)).heap[v6.heap.size]? = some (.cells ((plainC (opsL (1 + p) 6 x y) []).lines.flatMap cellsL).toArray 41 (0, 0))) := Lib.hid (heap_new' _ _ _ (by first | rfl | simp))
    refine hK.out _ _ (KEEP.out _ (ext_alloc (ext_trans (ext_trans (ext_trans (ext_trans (ext_trans (ext_alloc (ext_drew (Below.refl wa.heap.size wa)) (.cells #[.slice none 0 0, .slice none 0 0] 27)) Gv2.out) Gv3.out) Gv4.out) Gv5.out) Gv6.out) (.cells ((plainC (opsL (1 + p) 6 x y) []).lines.flatMap cellsL).toArray 41))) (fun hHeld => ?_)
    clear hK K
    try simp only [Act.put, List.setIfInBounds_toArray, List.set_cons_zero, List.set_cons_succ]
    refine wpAnyH_take (i := 13) (v := ?_) rfl (by kernel_rfl) (by kernel_rfl) (by kernel_rfl) (fun _ _ _ h => h) (Or.inl ⟨by rfl, ?hy⟩) (KEEP.out _ (ext_alloc (ext_trans (ext_trans (ext_trans (ext_trans (ext_trans (ext_alloc (ext_drew (Below.refl wa.heap.size wa)) (.cells #[.slice none 0 0, .slice none 0 0] 27)) Gv2.out) Gv3.out) Gv4.out) Gv5.out) Gv6.out) (.cells ((plainC (opsL (1 + p) 6 x y) []).lines.flatMap cellsL).toArray 41))) ?_
    case hy => (intro w hSw; go_simp; try (with_reducible rfl))
    try simp only [Act.put, List.setIfInBounds_toArray, List.set_cons_zero, List.set_cons_succ]
    refine wpAnyH_ready (rs := [15]) (by kernel_rfl) (by simp) ?_
    refine AllReadyH.cons rfl (fun K hK => ?_) AllReadyH.nil
    rw [if_pos (by rfl)]
    refine wp_store_mid 27 _ _ rfl (wa.heap.size) 0 #[.slice none 0 0, .slice (some ⟨v6.heap.size, 0, none⟩) 5 5] rfl rfl (there2 HC7.out) infoCode (by simp [Value.oneCell']) ?_
    have BL := Lib.hid (setCells_below (b := wa.heap.size) [.slice none 0 0, .slice (some ⟨v6.heap.size, 0, none⟩) 5 5] 0 _ _ (ext_alloc (ext_trans (ext_trans (ext_trans (ext_trans (ext_trans (ext_alloc (ext_drew (Below.refl wa.heap.size wa)) (.cells #[.slice none 0 0, .slice none 0 0] 27)) Gv2.out) Gv3.out) Gv4.out) Gv5.out) Gv6.out) (.cells ((plainC (opsL (1 + p) 6 x y) []).lines.flatMap cellsL).toArray 41)) (show wa.heap.size ≤ wa.heap.size by omega))
    refine hK.out _ _ (KEEP.out _ BL.out) (fun hHeld => ?_)
    clear hK K
    try simp only [Act.put, List.setIfInBounds_toArray, List.set_cons_zero, List.set_cons_succ]
    refine wpAnyH_done (by kernel_rfl) ?_ _
    have HLD := Lib.hid (opr_mk (s10 := .pointer (some ⟨wa.heap.size, 0, none⟩)) 6 G1.out HB.out BL.out zb rfl (show wa.heap.size ≤ wa.heap.size by omega) (store2 HC7.out _ _) ((setCells_other _ _ _ _ (show v6.heap.size ≠ wa.heap.size by omega)).trans HL7.out))
    go_wp2_with fail
    go_meet
    case rel => exact HLD.out
  case rest =>
    obtain ⟨C, rfl, hb, g, hCb, l, hC, hL⟩ := hcut
    have GB := Lib.hid g
    have HC := Lib.hid hC
    have HL := Lib.hid hL
    have zC : C < wc.heap.size := (Array.getElem?_eq_some_iff.1 hC).1
    have zl : l < wc.heap.size := (Array.getElem?_eq_some_iff.1 hL).1
    obtain ⟨c0, c1, c2, c3, c4, c5⟩ := cells6 hb
    obtain ⟨d0, d1⟩ := two_cells hC
    have zB : w0.heap.size < wc.heap.size := (Array.getElem?_eq_some_iff.1 hb).1
    clear KEEP HB G1 zb hb g hC hL hCb c1 c2 c3 c4 c5 P1
    rcases (show p = 0 ∨ p = 1 ∨ p = 2 ∨ p = 3 ∨ p = 4 ∨ p = 5 ∨ p = 6 ∨ p = 7 ∨ p = 8 ∨ p = 9 ∨ p = 10 ∨ p = 11 by omega) with rfl | rfl | rfl | rfl | rfl | rfl | rfl | rfl | rfl | rfl | rfl | rfl
    · have c0' : wc.cell? ⟨w0.heap.size, 0, none⟩ = some (.int .i64 1) := c0
      clear c0
      have HL1 : Hid (wc.heap[l]? = some (.cells ((plainC (opsL 1 6 x y) []).lines.flatMap cellsL).toArray 41 (0, 0))) := HL
      clear HL
      have HR : Hid (∀ (v : Value) w', CdAt w' v (plainC (opsL 1 6 x y) []) → Calls Tryz.prog 14 #[v, .slice none 0 0, .int .i64 9] w' fun e w'' => (∃ po co, e = .returned (.agg #[.int .i64 1, .int .i64 (twoV 1 x y), .slice po 0 co, .int .i64 5]) ∧ RnAt w'' (.agg #[.int .i64 1, .int .i64 (twoV 1 x y), .slice po 0 co, .int .i64 5]) ⟨1, (twoV 1 x y), [], 5⟩) ∧ Below w'.heap.size w' w'') := HRN
      clear HRN
      go_wp2_with fail
      refine (two_any _ _ _ _).mono ?_; rintro e w3 ⟨rfl, g3⟩
      have G3 : Hid (Below wc.heap.size wc w3) := Lib.hid (ext_trans (ext_alloc (Below.refl _ _) _) g3)
      clear g3
      have HL3 := Lib.hid ((G3.out.block l zl).trans HL1.out)
      have e0 := (G3.out.cell (p := ⟨C, 0, none⟩) zC).trans d0
      have e1 := (G3.out.cell (p := ⟨C, 1, none⟩) zC).trans d1
      clear d0 d1 c0'
      go_wp2_with fail
      refine (HR.out _ _ (cd_of (c := (plainC (opsL 1 6 x y) [])) (ars_none _) (lns_block (L := (plainC (opsL 1 6 x y) []).lines) HL3.out (by show 5 ≤ 1000; decide)) (by show 0 ≤ 1000; decide) (by show 5 ≤ 1000; decide))).mono ?_; rintro e wr ⟨⟨po, co, rfl, hr⟩, gr⟩
      have HS := Lib.hid (rsame_any _ _ _ _ _ hr (rn_lit _ 1 (twoV 1 x y) 5) (by show 0 ≤ 1000000; decide) (by show 0 ≤ 1000000; decide))
      rw [decide_eq_true (rfl : (⟨1, (twoV 1 x y), [], 5⟩ : Rn) = ⟨1, (twoV 1 x y), [], 5⟩)] at HS
      have GR := Lib.hid (ext_trans (ext_trans GB.out G3.out) gr)
      clear hr gr HR HL3 HL1 G3
      go_wp2_with fail
      refine HS.out.mono ?_; rintro e w9 ⟨rfl, g9⟩
      have GZ := Lib.hid (ext_trans GR.out g9)
      clear g9 HS GR
      go_wp2_with fail
      go_ret
      exact ⟨rfl, GZ.out⟩
    · have c0' : wc.cell? ⟨w0.heap.size, 0, none⟩ = some (.int .i64 2) := c0
      clear c0
      have HL1 : Hid (wc.heap[l]? = some (.cells ((plainC (opsL 2 6 x y) []).lines.flatMap cellsL).toArray 41 (0, 0))) := HL
      clear HL
      have HR : Hid (∀ (v : Value) w', CdAt w' v (plainC (opsL 2 6 x y) []) → Calls Tryz.prog 14 #[v, .slice none 0 0, .int .i64 9] w' fun e w'' => (∃ po co, e = .returned (.agg #[.int .i64 1, .int .i64 (twoV 2 x y), .slice po 0 co, .int .i64 5]) ∧ RnAt w'' (.agg #[.int .i64 1, .int .i64 (twoV 2 x y), .slice po 0 co, .int .i64 5]) ⟨1, (twoV 2 x y), [], 5⟩) ∧ Below w'.heap.size w' w'') := HRN
      clear HRN
      go_wp2_with fail
      refine (two_any _ _ _ _).mono ?_; rintro e w3 ⟨rfl, g3⟩
      have G3 : Hid (Below wc.heap.size wc w3) := Lib.hid (ext_trans (ext_alloc (Below.refl _ _) _) g3)
      clear g3
      have HL3 := Lib.hid ((G3.out.block l zl).trans HL1.out)
      have e0 := (G3.out.cell (p := ⟨C, 0, none⟩) zC).trans d0
      have e1 := (G3.out.cell (p := ⟨C, 1, none⟩) zC).trans d1
      clear d0 d1 c0'
      go_wp2_with fail
      refine (HR.out _ _ (cd_of (c := (plainC (opsL 2 6 x y) [])) (ars_none _) (lns_block (L := (plainC (opsL 2 6 x y) []).lines) HL3.out (by show 5 ≤ 1000; decide)) (by show 0 ≤ 1000; decide) (by show 5 ≤ 1000; decide))).mono ?_; rintro e wr ⟨⟨po, co, rfl, hr⟩, gr⟩
      have HS := Lib.hid (rsame_any _ _ _ _ _ hr (rn_lit _ 1 (twoV 2 x y) 5) (by show 0 ≤ 1000000; decide) (by show 0 ≤ 1000000; decide))
      rw [decide_eq_true (rfl : (⟨1, (twoV 2 x y), [], 5⟩ : Rn) = ⟨1, (twoV 2 x y), [], 5⟩)] at HS
      have GR := Lib.hid (ext_trans (ext_trans GB.out G3.out) gr)
      clear hr gr HR HL3 HL1 G3
      go_wp2_with fail
      refine HS.out.mono ?_; rintro e w9 ⟨rfl, g9⟩
      have GZ := Lib.hid (ext_trans GR.out g9)
      clear g9 HS GR
      go_wp2_with fail
      go_ret
      exact ⟨rfl, GZ.out⟩
    · have c0' : wc.cell? ⟨w0.heap.size, 0, none⟩ = some (.int .i64 3) := c0
      clear c0
      have HL1 : Hid (wc.heap[l]? = some (.cells ((plainC (opsL 3 6 x y) []).lines.flatMap cellsL).toArray 41 (0, 0))) := HL
      clear HL
      have HR : Hid (∀ (v : Value) w', CdAt w' v (plainC (opsL 3 6 x y) []) → Calls Tryz.prog 14 #[v, .slice none 0 0, .int .i64 9] w' fun e w'' => (∃ po co, e = .returned (.agg #[.int .i64 1, .int .i64 (twoV 3 x y), .slice po 0 co, .int .i64 5]) ∧ RnAt w'' (.agg #[.int .i64 1, .int .i64 (twoV 3 x y), .slice po 0 co, .int .i64 5]) ⟨1, (twoV 3 x y), [], 5⟩) ∧ Below w'.heap.size w' w'') := HRN
      clear HRN
      go_wp2_with fail
      refine (two_any _ _ _ _).mono ?_; rintro e w3 ⟨rfl, g3⟩
      have G3 : Hid (Below wc.heap.size wc w3) := Lib.hid (ext_trans (ext_alloc (Below.refl _ _) _) g3)
      clear g3
      have HL3 := Lib.hid ((G3.out.block l zl).trans HL1.out)
      have e0 := (G3.out.cell (p := ⟨C, 0, none⟩) zC).trans d0
      have e1 := (G3.out.cell (p := ⟨C, 1, none⟩) zC).trans d1
      clear d0 d1 c0'
      go_wp2_with fail
      refine (HR.out _ _ (cd_of (c := (plainC (opsL 3 6 x y) [])) (ars_none _) (lns_block (L := (plainC (opsL 3 6 x y) []).lines) HL3.out (by show 5 ≤ 1000; decide)) (by show 0 ≤ 1000; decide) (by show 5 ≤ 1000; decide))).mono ?_; rintro e wr ⟨⟨po, co, rfl, hr⟩, gr⟩
      have HS := Lib.hid (rsame_any _ _ _ _ _ hr (rn_lit _ 1 (twoV 3 x y) 5) (by show 0 ≤ 1000000; decide) (by show 0 ≤ 1000000; decide))
      rw [decide_eq_true (rfl : (⟨1, (twoV 3 x y), [], 5⟩ : Rn) = ⟨1, (twoV 3 x y), [], 5⟩)] at HS
      have GR := Lib.hid (ext_trans (ext_trans GB.out G3.out) gr)
      clear hr gr HR HL3 HL1 G3
      go_wp2_with fail
      refine HS.out.mono ?_; rintro e w9 ⟨rfl, g9⟩
      have GZ := Lib.hid (ext_trans GR.out g9)
      clear g9 HS GR
      go_wp2_with fail
      go_ret
      exact ⟨rfl, GZ.out⟩
    · have c0' : wc.cell? ⟨w0.heap.size, 0, none⟩ = some (.int .i64 4) := c0
      clear c0
      have HL1 : Hid (wc.heap[l]? = some (.cells ((plainC (opsL 4 6 x y) []).lines.flatMap cellsL).toArray 41 (0, 0))) := HL
      clear HL
      have HR : Hid (∀ (v : Value) w', CdAt w' v (plainC (opsL 4 6 x y) []) → Calls Tryz.prog 14 #[v, .slice none 0 0, .int .i64 9] w' fun e w'' => (∃ po co, e = .returned (.agg #[.int .i64 1, .int .i64 (divV x y), .slice po 0 co, .int .i64 5]) ∧ RnAt w'' (.agg #[.int .i64 1, .int .i64 (divV x y), .slice po 0 co, .int .i64 5]) ⟨1, (divV x y), [], 5⟩) ∧ Below w'.heap.size w' w'') := HRN
      clear HRN
      go_wp2_with fail
      refine (div_any _ _ _).mono ?_; rintro e wk ⟨rfl, rfl⟩
      have G3 := Lib.hid (Below.refl wc.heap.size wc)
      have HL3 := HL1
      go_wp2_with fail
      refine (HR.out _ _ (cd_of (c := (plainC (opsL 4 6 x y) [])) (ars_none _) (lns_block (L := (plainC (opsL 4 6 x y) []).lines) HL3.out (by show 5 ≤ 1000; decide)) (by show 0 ≤ 1000; decide) (by show 5 ≤ 1000; decide))).mono ?_; rintro e wr ⟨⟨po, co, rfl, hr⟩, gr⟩
      have HS := Lib.hid (rsame_any _ _ _ _ _ hr (rn_lit _ 1 (divV x y) 5) (by show 0 ≤ 1000000; decide) (by show 0 ≤ 1000000; decide))
      rw [decide_eq_true (rfl : (⟨1, (divV x y), [], 5⟩ : Rn) = ⟨1, (divV x y), [], 5⟩)] at HS
      have GR := Lib.hid (ext_trans (ext_trans GB.out G3.out) gr)
      clear hr gr HR HL3 HL1 G3
      go_wp2_with fail
      refine HS.out.mono ?_; rintro e w9 ⟨rfl, g9⟩
      have GZ := Lib.hid (ext_trans GR.out g9)
      clear g9 HS GR
      go_wp2_with fail
      go_ret
      exact ⟨rfl, GZ.out⟩
    · have c0' : wc.cell? ⟨w0.heap.size, 0, none⟩ = some (.int .i64 5) := c0
      clear c0
      have HL1 : Hid (wc.heap[l]? = some (.cells ((plainC (opsL 5 6 x y) []).lines.flatMap cellsL).toArray 41 (0, 0))) := HL
      clear HL
      have HR : Hid (∀ (v : Value) w', CdAt w' v (plainC (opsL 5 6 x y) []) → Calls Tryz.prog 14 #[v, .slice none 0 0, .int .i64 9] w' fun e w'' => (∃ po co, e = .returned (.agg #[.int .i64 1, .int .i64 (remV x y), .slice po 0 co, .int .i64 5]) ∧ RnAt w'' (.agg #[.int .i64 1, .int .i64 (remV x y), .slice po 0 co, .int .i64 5]) ⟨1, (remV x y), [], 5⟩) ∧ Below w'.heap.size w' w'') := HRN
      clear HRN
      go_wp2_with fail
      refine (rem_any _ _ _).mono ?_; rintro e wk ⟨rfl, rfl⟩
      have G3 := Lib.hid (Below.refl wc.heap.size wc)
      have HL3 := HL1
      go_wp2_with fail
      refine (HR.out _ _ (cd_of (c := (plainC (opsL 5 6 x y) [])) (ars_none _) (lns_block (L := (plainC (opsL 5 6 x y) []).lines) HL3.out (by show 5 ≤ 1000; decide)) (by show 0 ≤ 1000; decide) (by show 5 ≤ 1000; decide))).mono ?_; rintro e wr ⟨⟨po, co, rfl, hr⟩, gr⟩
      have HS := Lib.hid (rsame_any _ _ _ _ _ hr (rn_lit _ 1 (remV x y) 5) (by show 0 ≤ 1000000; decide) (by show 0 ≤ 1000000; decide))
      rw [decide_eq_true (rfl : (⟨1, (remV x y), [], 5⟩ : Rn) = ⟨1, (remV x y), [], 5⟩)] at HS
      have GR := Lib.hid (ext_trans (ext_trans GB.out G3.out) gr)
      clear hr gr HR HL3 HL1 G3
      go_wp2_with fail
      refine HS.out.mono ?_; rintro e w9 ⟨rfl, g9⟩
      have GZ := Lib.hid (ext_trans GR.out g9)
      clear g9 HS GR
      go_wp2_with fail
      go_ret
      exact ⟨rfl, GZ.out⟩
    · have c0' : wc.cell? ⟨w0.heap.size, 0, none⟩ = some (.int .i64 6) := c0
      clear c0
      have HL1 : Hid (wc.heap[l]? = some (.cells ((plainC (opsL 6 6 x y) []).lines.flatMap cellsL).toArray 41 (0, 0))) := HL
      clear HL
      have HR : Hid (∀ (v : Value) w', CdAt w' v (plainC (opsL 6 6 x y) []) → Calls Tryz.prog 14 #[v, .slice none 0 0, .int .i64 9] w' fun e w'' => (∃ po co, e = .returned (.agg #[.int .i64 1, .int .i64 (twoV 6 x y), .slice po 0 co, .int .i64 5]) ∧ RnAt w'' (.agg #[.int .i64 1, .int .i64 (twoV 6 x y), .slice po 0 co, .int .i64 5]) ⟨1, (twoV 6 x y), [], 5⟩) ∧ Below w'.heap.size w' w'') := HRN
      clear HRN
      go_wp2_with fail
      refine (two_any _ _ _ _).mono ?_; rintro e w3 ⟨rfl, g3⟩
      have G3 : Hid (Below wc.heap.size wc w3) := Lib.hid (ext_trans (ext_alloc (Below.refl _ _) _) g3)
      clear g3
      have HL3 := Lib.hid ((G3.out.block l zl).trans HL1.out)
      have e0 := (G3.out.cell (p := ⟨C, 0, none⟩) zC).trans d0
      have e1 := (G3.out.cell (p := ⟨C, 1, none⟩) zC).trans d1
      clear d0 d1 c0'
      go_wp2_with fail
      refine (HR.out _ _ (cd_of (c := (plainC (opsL 6 6 x y) [])) (ars_none _) (lns_block (L := (plainC (opsL 6 6 x y) []).lines) HL3.out (by show 5 ≤ 1000; decide)) (by show 0 ≤ 1000; decide) (by show 5 ≤ 1000; decide))).mono ?_; rintro e wr ⟨⟨po, co, rfl, hr⟩, gr⟩
      have HS := Lib.hid (rsame_any _ _ _ _ _ hr (rn_lit _ 1 (twoV 6 x y) 5) (by show 0 ≤ 1000000; decide) (by show 0 ≤ 1000000; decide))
      rw [decide_eq_true (rfl : (⟨1, (twoV 6 x y), [], 5⟩ : Rn) = ⟨1, (twoV 6 x y), [], 5⟩)] at HS
      have GR := Lib.hid (ext_trans (ext_trans GB.out G3.out) gr)
      clear hr gr HR HL3 HL1 G3
      go_wp2_with fail
      refine HS.out.mono ?_; rintro e w9 ⟨rfl, g9⟩
      have GZ := Lib.hid (ext_trans GR.out g9)
      clear g9 HS GR
      go_wp2_with fail
      go_ret
      exact ⟨rfl, GZ.out⟩
    · have c0' : wc.cell? ⟨w0.heap.size, 0, none⟩ = some (.int .i64 7) := c0
      clear c0
      have HL1 : Hid (wc.heap[l]? = some (.cells ((plainC (opsL 7 6 x y) []).lines.flatMap cellsL).toArray 41 (0, 0))) := HL
      clear HL
      have HR : Hid (∀ (v : Value) w', CdAt w' v (plainC (opsL 7 6 x y) []) → Calls Tryz.prog 14 #[v, .slice none 0 0, .int .i64 9] w' fun e w'' => (∃ po co, e = .returned (.agg #[.int .i64 1, .int .i64 (twoV 7 x y), .slice po 0 co, .int .i64 5]) ∧ RnAt w'' (.agg #[.int .i64 1, .int .i64 (twoV 7 x y), .slice po 0 co, .int .i64 5]) ⟨1, (twoV 7 x y), [], 5⟩) ∧ Below w'.heap.size w' w'') := HRN
      clear HRN
      go_wp2_with fail
      refine (two_any _ _ _ _).mono ?_; rintro e w3 ⟨rfl, g3⟩
      have G3 : Hid (Below wc.heap.size wc w3) := Lib.hid (ext_trans (ext_alloc (Below.refl _ _) _) g3)
      clear g3
      have HL3 := Lib.hid ((G3.out.block l zl).trans HL1.out)
      have e0 := (G3.out.cell (p := ⟨C, 0, none⟩) zC).trans d0
      have e1 := (G3.out.cell (p := ⟨C, 1, none⟩) zC).trans d1
      clear d0 d1 c0'
      go_wp2_with fail
      refine (HR.out _ _ (cd_of (c := (plainC (opsL 7 6 x y) [])) (ars_none _) (lns_block (L := (plainC (opsL 7 6 x y) []).lines) HL3.out (by show 5 ≤ 1000; decide)) (by show 0 ≤ 1000; decide) (by show 5 ≤ 1000; decide))).mono ?_; rintro e wr ⟨⟨po, co, rfl, hr⟩, gr⟩
      have HS := Lib.hid (rsame_any _ _ _ _ _ hr (rn_lit _ 1 (twoV 7 x y) 5) (by show 0 ≤ 1000000; decide) (by show 0 ≤ 1000000; decide))
      rw [decide_eq_true (rfl : (⟨1, (twoV 7 x y), [], 5⟩ : Rn) = ⟨1, (twoV 7 x y), [], 5⟩)] at HS
      have GR := Lib.hid (ext_trans (ext_trans GB.out G3.out) gr)
      clear hr gr HR HL3 HL1 G3
      go_wp2_with fail
      refine HS.out.mono ?_; rintro e w9 ⟨rfl, g9⟩
      have GZ := Lib.hid (ext_trans GR.out g9)
      clear g9 HS GR
      go_wp2_with fail
      go_ret
      exact ⟨rfl, GZ.out⟩
    · have c0' : wc.cell? ⟨w0.heap.size, 0, none⟩ = some (.int .i64 8) := c0
      clear c0
      have HL1 : Hid (wc.heap[l]? = some (.cells ((plainC (opsL 8 6 x y) []).lines.flatMap cellsL).toArray 41 (0, 0))) := HL
      clear HL
      have HR : Hid (∀ (v : Value) w', CdAt w' v (plainC (opsL 8 6 x y) []) → Calls Tryz.prog 14 #[v, .slice none 0 0, .int .i64 9] w' fun e w'' => (∃ po co, e = .returned (.agg #[.int .i64 1, .int .i64 (twoV 8 x y), .slice po 0 co, .int .i64 5]) ∧ RnAt w'' (.agg #[.int .i64 1, .int .i64 (twoV 8 x y), .slice po 0 co, .int .i64 5]) ⟨1, (twoV 8 x y), [], 5⟩) ∧ Below w'.heap.size w' w'') := HRN
      clear HRN
      go_wp2_with fail
      refine (two_any _ _ _ _).mono ?_; rintro e w3 ⟨rfl, g3⟩
      have G3 : Hid (Below wc.heap.size wc w3) := Lib.hid (ext_trans (ext_alloc (Below.refl _ _) _) g3)
      clear g3
      have HL3 := Lib.hid ((G3.out.block l zl).trans HL1.out)
      have e0 := (G3.out.cell (p := ⟨C, 0, none⟩) zC).trans d0
      have e1 := (G3.out.cell (p := ⟨C, 1, none⟩) zC).trans d1
      clear d0 d1 c0'
      go_wp2_with fail
      refine (HR.out _ _ (cd_of (c := (plainC (opsL 8 6 x y) [])) (ars_none _) (lns_block (L := (plainC (opsL 8 6 x y) []).lines) HL3.out (by show 5 ≤ 1000; decide)) (by show 0 ≤ 1000; decide) (by show 5 ≤ 1000; decide))).mono ?_; rintro e wr ⟨⟨po, co, rfl, hr⟩, gr⟩
      have HS := Lib.hid (rsame_any _ _ _ _ _ hr (rn_lit _ 1 (twoV 8 x y) 5) (by show 0 ≤ 1000000; decide) (by show 0 ≤ 1000000; decide))
      rw [decide_eq_true (rfl : (⟨1, (twoV 8 x y), [], 5⟩ : Rn) = ⟨1, (twoV 8 x y), [], 5⟩)] at HS
      have GR := Lib.hid (ext_trans (ext_trans GB.out G3.out) gr)
      clear hr gr HR HL3 HL1 G3
      go_wp2_with fail
      refine HS.out.mono ?_; rintro e w9 ⟨rfl, g9⟩
      have GZ := Lib.hid (ext_trans GR.out g9)
      clear g9 HS GR
      go_wp2_with fail
      go_ret
      exact ⟨rfl, GZ.out⟩
    · have c0' : wc.cell? ⟨w0.heap.size, 0, none⟩ = some (.int .i64 9) := c0
      clear c0
      have HL1 : Hid (wc.heap[l]? = some (.cells ((plainC (opsL 9 6 x y) []).lines.flatMap cellsL).toArray 41 (0, 0))) := HL
      clear HL
      have HR : Hid (∀ (v : Value) w', CdAt w' v (plainC (opsL 9 6 x y) []) → Calls Tryz.prog 14 #[v, .slice none 0 0, .int .i64 9] w' fun e w'' => (∃ po co, e = .returned (.agg #[.int .i64 1, .int .i64 (twoV 9 x y), .slice po 0 co, .int .i64 5]) ∧ RnAt w'' (.agg #[.int .i64 1, .int .i64 (twoV 9 x y), .slice po 0 co, .int .i64 5]) ⟨1, (twoV 9 x y), [], 5⟩) ∧ Below w'.heap.size w' w'') := HRN
      clear HRN
      go_wp2_with fail
      refine (two_any _ _ _ _).mono ?_; rintro e w3 ⟨rfl, g3⟩
      have G3 : Hid (Below wc.heap.size wc w3) := Lib.hid (ext_trans (ext_alloc (Below.refl _ _) _) g3)
      clear g3
      have HL3 := Lib.hid ((G3.out.block l zl).trans HL1.out)
      have e0 := (G3.out.cell (p := ⟨C, 0, none⟩) zC).trans d0
      have e1 := (G3.out.cell (p := ⟨C, 1, none⟩) zC).trans d1
      clear d0 d1 c0'
      go_wp2_with fail
      refine (HR.out _ _ (cd_of (c := (plainC (opsL 9 6 x y) [])) (ars_none _) (lns_block (L := (plainC (opsL 9 6 x y) []).lines) HL3.out (by show 5 ≤ 1000; decide)) (by show 0 ≤ 1000; decide) (by show 5 ≤ 1000; decide))).mono ?_; rintro e wr ⟨⟨po, co, rfl, hr⟩, gr⟩
      have HS := Lib.hid (rsame_any _ _ _ _ _ hr (rn_lit _ 1 (twoV 9 x y) 5) (by show 0 ≤ 1000000; decide) (by show 0 ≤ 1000000; decide))
      rw [decide_eq_true (rfl : (⟨1, (twoV 9 x y), [], 5⟩ : Rn) = ⟨1, (twoV 9 x y), [], 5⟩)] at HS
      have GR := Lib.hid (ext_trans (ext_trans GB.out G3.out) gr)
      clear hr gr HR HL3 HL1 G3
      go_wp2_with fail
      refine HS.out.mono ?_; rintro e w9 ⟨rfl, g9⟩
      have GZ := Lib.hid (ext_trans GR.out g9)
      clear g9 HS GR
      go_wp2_with fail
      go_ret
      exact ⟨rfl, GZ.out⟩
    · have c0' : wc.cell? ⟨w0.heap.size, 0, none⟩ = some (.int .i64 10) := c0
      clear c0
      have HL1 : Hid (wc.heap[l]? = some (.cells ((plainC (opsL 10 6 x y) []).lines.flatMap cellsL).toArray 41 (0, 0))) := HL
      clear HL
      have HR : Hid (∀ (v : Value) w', CdAt w' v (plainC (opsL 10 6 x y) []) → Calls Tryz.prog 14 #[v, .slice none 0 0, .int .i64 9] w' fun e w'' => (∃ po co, e = .returned (.agg #[.int .i64 1, .int .i64 (twoV 10 x y), .slice po 0 co, .int .i64 5]) ∧ RnAt w'' (.agg #[.int .i64 1, .int .i64 (twoV 10 x y), .slice po 0 co, .int .i64 5]) ⟨1, (twoV 10 x y), [], 5⟩) ∧ Below w'.heap.size w' w'') := HRN
      clear HRN
      go_wp2_with fail
      refine (two_any _ _ _ _).mono ?_; rintro e w3 ⟨rfl, g3⟩
      have G3 : Hid (Below wc.heap.size wc w3) := Lib.hid (ext_trans (ext_alloc (Below.refl _ _) _) g3)
      clear g3
      have HL3 := Lib.hid ((G3.out.block l zl).trans HL1.out)
      have e0 := (G3.out.cell (p := ⟨C, 0, none⟩) zC).trans d0
      have e1 := (G3.out.cell (p := ⟨C, 1, none⟩) zC).trans d1
      clear d0 d1 c0'
      go_wp2_with fail
      refine (HR.out _ _ (cd_of (c := (plainC (opsL 10 6 x y) [])) (ars_none _) (lns_block (L := (plainC (opsL 10 6 x y) []).lines) HL3.out (by show 5 ≤ 1000; decide)) (by show 0 ≤ 1000; decide) (by show 5 ≤ 1000; decide))).mono ?_; rintro e wr ⟨⟨po, co, rfl, hr⟩, gr⟩
      have HS := Lib.hid (rsame_any _ _ _ _ _ hr (rn_lit _ 1 (twoV 10 x y) 5) (by show 0 ≤ 1000000; decide) (by show 0 ≤ 1000000; decide))
      rw [decide_eq_true (rfl : (⟨1, (twoV 10 x y), [], 5⟩ : Rn) = ⟨1, (twoV 10 x y), [], 5⟩)] at HS
      have GR := Lib.hid (ext_trans (ext_trans GB.out G3.out) gr)
      clear hr gr HR HL3 HL1 G3
      go_wp2_with fail
      refine HS.out.mono ?_; rintro e w9 ⟨rfl, g9⟩
      have GZ := Lib.hid (ext_trans GR.out g9)
      clear g9 HS GR
      go_wp2_with fail
      go_ret
      exact ⟨rfl, GZ.out⟩
    · have c0' : wc.cell? ⟨w0.heap.size, 0, none⟩ = some (.int .i64 11) := c0
      clear c0
      have HL1 : Hid (wc.heap[l]? = some (.cells ((plainC (opsL 11 6 x y) []).lines.flatMap cellsL).toArray 41 (0, 0))) := HL
      clear HL
      have HR : Hid (∀ (v : Value) w', CdAt w' v (plainC (opsL 11 6 x y) []) → Calls Tryz.prog 14 #[v, .slice none 0 0, .int .i64 9] w' fun e w'' => (∃ po co, e = .returned (.agg #[.int .i64 1, .int .i64 (twoV 11 x y), .slice po 0 co, .int .i64 5]) ∧ RnAt w'' (.agg #[.int .i64 1, .int .i64 (twoV 11 x y), .slice po 0 co, .int .i64 5]) ⟨1, (twoV 11 x y), [], 5⟩) ∧ Below w'.heap.size w' w'') := HRN
      clear HRN
      go_wp2_with fail
      refine (two_any _ _ _ _).mono ?_; rintro e w3 ⟨rfl, g3⟩
      have G3 : Hid (Below wc.heap.size wc w3) := Lib.hid (ext_trans (ext_alloc (Below.refl _ _) _) g3)
      clear g3
      have HL3 := Lib.hid ((G3.out.block l zl).trans HL1.out)
      have e0 := (G3.out.cell (p := ⟨C, 0, none⟩) zC).trans d0
      have e1 := (G3.out.cell (p := ⟨C, 1, none⟩) zC).trans d1
      clear d0 d1 c0'
      go_wp2_with fail
      refine (HR.out _ _ (cd_of (c := (plainC (opsL 11 6 x y) [])) (ars_none _) (lns_block (L := (plainC (opsL 11 6 x y) []).lines) HL3.out (by show 5 ≤ 1000; decide)) (by show 0 ≤ 1000; decide) (by show 5 ≤ 1000; decide))).mono ?_; rintro e wr ⟨⟨po, co, rfl, hr⟩, gr⟩
      have HS := Lib.hid (rsame_any _ _ _ _ _ hr (rn_lit _ 1 (twoV 11 x y) 5) (by show 0 ≤ 1000000; decide) (by show 0 ≤ 1000000; decide))
      rw [decide_eq_true (rfl : (⟨1, (twoV 11 x y), [], 5⟩ : Rn) = ⟨1, (twoV 11 x y), [], 5⟩)] at HS
      have GR := Lib.hid (ext_trans (ext_trans GB.out G3.out) gr)
      clear hr gr HR HL3 HL1 G3
      go_wp2_with fail
      refine HS.out.mono ?_; rintro e w9 ⟨rfl, g9⟩
      have GZ := Lib.hid (ext_trans GR.out g9)
      clear g9 HS GR
      go_wp2_with fail
      go_ret
      exact ⟨rfl, GZ.out⟩
    · have c0' : wc.cell? ⟨w0.heap.size, 0, none⟩ = some (.int .i64 12) := c0
      clear c0
      have HL1 : Hid (wc.heap[l]? = some (.cells ((plainC (opsL 12 6 x y) []).lines.flatMap cellsL).toArray 41 (0, 0))) := HL
      clear HL
      have HR : Hid (∀ (v : Value) w', CdAt w' v (plainC (opsL 12 6 x y) []) → Calls Tryz.prog 14 #[v, .slice none 0 0, .int .i64 9] w' fun e w'' => (∃ po co, e = .returned (.agg #[.int .i64 1, .int .i64 (bi (lessV x y)), .slice po 0 co, .int .i64 5]) ∧ RnAt w'' (.agg #[.int .i64 1, .int .i64 (bi (lessV x y)), .slice po 0 co, .int .i64 5]) ⟨1, (bi (lessV x y)), [], 5⟩) ∧ Below w'.heap.size w' w'') := HRN
      clear HRN
      have HLE := Lib.hid (less_any x y)
      obtain ⟨lb, hlb⟩ : ∃ lb, lessV x y = lb := ⟨_, rfl⟩
      rw [hlb] at HLE HR
      clear hlb
      go_wp2_with fail
      refine (HLE.out _).mono ?_; rintro e wk ⟨rfl, rfl⟩
      have G3 := Lib.hid (Below.refl wc.heap.size wc)
      have HL3 := HL1
      cases lb
      · have HR2 : Hid (∀ (v : Value) w', CdAt w' v (plainC (opsL 12 6 x y) []) → Calls Tryz.prog 14 #[v, .slice none 0 0, .int .i64 9] w' fun e w'' => (∃ po co, e = .returned (.agg #[.int .i64 1, .int .i64 0, .slice po 0 co, .int .i64 5]) ∧ RnAt w'' (.agg #[.int .i64 1, .int .i64 0, .slice po 0 co, .int .i64 5]) ⟨1, 0, [], 5⟩) ∧ Below w'.heap.size w' w'') := HR
        clear HR
        have HR := HR2
        clear HR2
        go_wp2_with fail
        refine (HR.out _ _ (cd_of (c := (plainC (opsL 12 6 x y) [])) (ars_none _) (lns_block (L := (plainC (opsL 12 6 x y) []).lines) HL3.out (by show 5 ≤ 1000; decide)) (by show 0 ≤ 1000; decide) (by show 5 ≤ 1000; decide))).mono ?_; rintro e wr ⟨⟨po, co, rfl, hr⟩, gr⟩
        have HS := Lib.hid (rsame_any _ _ _ _ _ hr (rn_lit _ 1 0 5) (by show 0 ≤ 1000000; decide) (by show 0 ≤ 1000000; decide))
        rw [decide_eq_true (rfl : (⟨1, 0, [], 5⟩ : Rn) = ⟨1, 0, [], 5⟩)] at HS
        have GR := Lib.hid (ext_trans (ext_trans GB.out G3.out) gr)
        clear hr gr HR HL3 HL1 G3
        go_wp2_with fail
        refine HS.out.mono ?_; rintro e w9 ⟨rfl, g9⟩
        have GZ := Lib.hid (ext_trans GR.out g9)
        clear g9 HS GR
        go_wp2_with fail
        go_ret
        exact ⟨rfl, GZ.out⟩
      · have HR2 : Hid (∀ (v : Value) w', CdAt w' v (plainC (opsL 12 6 x y) []) → Calls Tryz.prog 14 #[v, .slice none 0 0, .int .i64 9] w' fun e w'' => (∃ po co, e = .returned (.agg #[.int .i64 1, .int .i64 1, .slice po 0 co, .int .i64 5]) ∧ RnAt w'' (.agg #[.int .i64 1, .int .i64 1, .slice po 0 co, .int .i64 5]) ⟨1, 1, [], 5⟩) ∧ Below w'.heap.size w' w'') := HR
        clear HR
        have HR := HR2
        clear HR2
        go_wp2_with fail
        refine (HR.out _ _ (cd_of (c := (plainC (opsL 12 6 x y) [])) (ars_none _) (lns_block (L := (plainC (opsL 12 6 x y) []).lines) HL3.out (by show 5 ≤ 1000; decide)) (by show 0 ≤ 1000; decide) (by show 5 ≤ 1000; decide))).mono ?_; rintro e wr ⟨⟨po, co, rfl, hr⟩, gr⟩
        have HS := Lib.hid (rsame_any _ _ _ _ _ hr (rn_lit _ 1 1 5) (by show 0 ≤ 1000000; decide) (by show 0 ≤ 1000000; decide))
        rw [decide_eq_true (rfl : (⟨1, 1, [], 5⟩ : Rn) = ⟨1, 1, [], 5⟩)] at HS
        have GR := Lib.hid (ext_trans (ext_trans GB.out G3.out) gr)
        clear hr gr HR HL3 HL1 G3
        go_wp2_with fail
        refine HS.out.mono ?_; rintro e w9 ⟨rfl, g9⟩
        have GZ := Lib.hid (ext_trans GR.out g9)
        clear g9 HS GR
        go_wp2_with fail
        go_ret
        exact ⟨rfl, GZ.out⟩
set_option maxHeartbeats 16000000 in
set_option maxRecDepth 100000 in
theorem ops_high (c x y p : Int) (w : World) (hc : I64 c) (hx : I64 x) (hy : I64 y) (hv : Env w) (hk : pickN c 15 = p) (hp : 12 ≤ p ∧ p < 15) : Calls Tryz.prog 8 #[.int .i64 c, .int .i64 x, .int .i64 y] w fun e w' => e = .returned (.bool true) ∧ Below w.heap.size w w' := by
  have HAW := Lib.hid (awake9_any w hv)
  have P1 : Hid (∀ w, Calls Tryz.prog 13 #[.int .i64 c, .int .i64 15] w fun e w' => e = .returned (.int .i64 p) ∧ w = w') :=
    Lib.hid (fun w => (pick9_any c 15 w hc (by decide)).mono fun e w' h => ⟨by rw [← hk]; exact h.1, h.2⟩)
  have HRN : Hid (∀ (v : Value) w', CdAt w' v (plainC (opsL (1 + p) 0 x y) []) → Calls Tryz.prog 14 #[v, .slice none 0 0, .int .i64 9] w' fun e w'' => (∃ po co, e = .returned (.agg #[.int .i64 1, .int .i64 (madeI (1 + p) 0 x 0), .slice po 0 co, .int .i64 5]) ∧ RnAt w'' (.agg #[.int .i64 1, .int .i64 (madeI (1 + p) 0 x 0), .slice po 0 co, .int .i64 5]) ⟨1, madeI (1 + p) 0 x 0, [], 5⟩) ∧ Below w'.heap.size w' w'') :=
    Lib.hid (fun v w' h => run_nil v _ w' h ops_fit (by show 0 ≤ 1000; decide) (plain_n64 (ops_n64 hx hy)) 9 (by decide) _ (ops_hi2 hp))
  have hp64 : I64 p := by unfold I64; omega
  clear hv hc hk
  go_enter Tryz.func8, Tryz.ntmps8
  go_wp2_with fail
  refine HAW.out.mono ?_; rintro e w0 ⟨rfl, g0⟩
  have GA := Lib.hid g0
  have z0 := g0.size
  clear g0 HAW
  go_upto_region 6 with (first | (go_at_call 13; (with_reducible refine (P1.out _).mono ?_); rintro e wk ⟨rfl, rfl⟩))
  generalize hwa : (w0.alloc (.cells #[.int .i64 (1 + p), .int .i64 10, .int .i64 5, .int .i64 0, .int .i64 0, .string ⟨#[]⟩] 39)) = wa
  have HB : Hid (InB wa w0.heap.size p 0) := Lib.hid (by rw [← hwa]; exact heap_new w0 _)
  have G1 : Hid (Below w.heap.size w wa) := Lib.hid (by rw [← hwa]; exact ext_alloc GA.out _)
  have zb : w0.heap.size < wa.heap.size := (Array.getElem?_eq_some_iff.1 HB.out).1
  have KEEP : Hid (∀ w', Below wa.heap.size wa w' → ((fun w' => w'.cell? ⟨w0.heap.size, 0, none⟩ = some (.int .i64 (1 + p)) ∧ w'.cell? ⟨w0.heap.size, 1, none⟩ = some (.int .i64 10) ∧ w'.cell? ⟨w0.heap.size, 2, none⟩ = some (.int .i64 5) ∧ w'.cell? ⟨w0.heap.size, 3, none⟩ = some (.int .i64 0) ∧ w'.cell? ⟨w0.heap.size, 4, none⟩ = some (.int .i64 0) ∧ w'.cell? ⟨w0.heap.size, 5, none⟩ = some (.string ⟨#[]⟩)) : World → Prop) w') := Lib.hid (fun w' g => cells6 ((g.block _ zb).trans HB.out))
  clear hwa GA
  go_cut [10] (fun s10 wx => OpR w w0.heap.size p 0 x y s10 wx)
  case first =>
    refine wp_region_held_drew (S := fun w' => w'.cell? ⟨w0.heap.size, 0, none⟩ = some (.int .i64 (1 + p)) ∧ w'.cell? ⟨w0.heap.size, 1, none⟩ = some (.int .i64 10) ∧ w'.cell? ⟨w0.heap.size, 2, none⟩ = some (.int .i64 5) ∧ w'.cell? ⟨w0.heap.size, 3, none⟩ = some (.int .i64 0) ∧ w'.cell? ⟨w0.heap.size, 4, none⟩ = some (.int .i64 0) ∧ w'.cell? ⟨w0.heap.size, 5, none⟩ = some (.string ⟨#[]⟩)) (by kernel_rfl) (KEEP.out _ (ext_drew (Below.refl _ _))) (fun hHeld => ?_)
    refine wpAnyH_take (i := 0) (v := ?_) rfl (by kernel_rfl) (by kernel_rfl) (by kernel_rfl) (fun _ _ _ h => h) (Or.inl ⟨by rfl, ?hy⟩) hHeld ?_
    case hy => (intro w hSw; (try dsimp only at hSw); go_simp; try (with_reducible rfl))
    try simp only [Act.put, List.setIfInBounds_toArray, List.set_cons_zero, List.set_cons_succ]
    refine wpAnyH_take (i := 1) (v := ?_) rfl (by kernel_rfl) (by kernel_rfl) (by kernel_rfl) (fun _ _ _ h => h) (Or.inl ⟨by rfl, ?hy⟩) hHeld ?_
    case hy => (intro w hSw; (try dsimp only at hSw); go_simp; try (with_reducible rfl))
    try simp only [Act.put, List.setIfInBounds_toArray, List.set_cons_zero, List.set_cons_succ]
    refine wpAnyH_take (i := 3) (v := ?_) rfl (by kernel_rfl) (by kernel_rfl) (by kernel_rfl) (fun _ _ _ h => h) (Or.inl ⟨by rfl, ?hy⟩) hHeld ?_
    case hy => (intro w hSw; (try dsimp only at hSw); go_simp; try (with_reducible rfl))
    try simp only [Act.put, List.setIfInBounds_toArray, List.set_cons_zero, List.set_cons_succ]
    refine wpAnyH_take (i := 4) (v := ?_) rfl (by kernel_rfl) (by kernel_rfl) (by kernel_rfl) (fun _ _ _ h => h) (Or.inl ⟨by rfl, ?hy⟩) hHeld ?_
    case hy => (intro w hSw; (try dsimp only at hSw); go_simp; try (with_reducible rfl))
    try simp only [Act.put, List.setIfInBounds_toArray, List.set_cons_zero, List.set_cons_succ]
    refine wpAnyH_take (i := 6) (v := ?_) rfl (by kernel_rfl) (by kernel_rfl) (by kernel_rfl) (fun _ _ _ h => h) (Or.inl ⟨by rfl, ?hy⟩) hHeld ?_
    case hy => (intro w hSw; (try dsimp only at hSw); go_simp; try (with_reducible rfl))
    try simp only [Act.put, List.setIfInBounds_toArray, List.set_cons_zero, List.set_cons_succ]
    refine wpAnyH_take (i := 8) (v := ?_) rfl (by kernel_rfl) (by kernel_rfl) (by kernel_rfl) (fun _ _ _ h => h) (Or.inl ⟨by rfl, ?hy⟩) hHeld ?_
    case hy => (intro w hSw; (try dsimp only at hSw); go_simp; try (with_reducible rfl))
    try simp only [Act.put, List.setIfInBounds_toArray, List.set_cons_zero, List.set_cons_succ]
    refine wpAnyH_take (i := 10) (v := ?_) rfl (by kernel_rfl) (by kernel_rfl) (by kernel_rfl) (fun _ _ _ h => h) (Or.inl ⟨by rfl, ?hy⟩) hHeld ?_
    case hy => (intro w hSw; (try dsimp only at hSw); go_simp; try (with_reducible rfl))
    try simp only [Act.put, List.setIfInBounds_toArray, List.set_cons_zero, List.set_cons_succ]
    refine wpAnyH_ready (rs := [2, 14]) (by kernel_rfl) (by simp) ?_
    refine AllReadyH.cons rfl (fun K hK => ?_) ?_
    · go_simp
      refine (line_any _ _ _ _ _ _ _).mono ?_; rintro e v1 ⟨rfl, gv1⟩
      have Zv1 : wa.heap.size ≤ v1.heap.size := by have := gv1.size; (try simp at this); omega
      have Gv1 := Lib.hid gv1; clear gv1
      refine hK.out _ _ (KEEP.out _ (ext_trans (ext_drew (Below.refl wa.heap.size wa)) Gv1.out)) (fun hHeld => ?_)
      clear hK K
      try simp only [Act.put, List.setIfInBounds_toArray, List.set_cons_zero, List.set_cons_succ]
      refine wpAnyH_ready (rs := [5, 14]) (by kernel_rfl) (by simp) ?_
      refine AllReadyH.cons rfl (fun K hK => ?_) ?_
      · go_simp
        refine (line_any _ _ _ _ _ _ _).mono ?_; rintro e v2 ⟨rfl, gv2⟩
        have Zv2 : v1.heap.size ≤ v2.heap.size := by have := gv2.size; (try simp at this); omega
        have Gv2 := Lib.hid gv2; clear gv2
        refine hK.out _ _ (KEEP.out _ (ext_trans (ext_trans (ext_drew (Below.refl wa.heap.size wa)) Gv1.out) Gv2.out)) (fun hHeld => ?_)
        clear hK K
        try simp only [Act.put, List.setIfInBounds_toArray, List.set_cons_zero, List.set_cons_succ]
        refine wpAnyH_ready (rs := [7, 14]) (by kernel_rfl) (by simp) ?_
        refine AllReadyH.cons rfl (fun K hK => ?_) ?_
        · go_simp
          refine (line_any _ _ _ _ _ _ _).mono ?_; rintro e v3 ⟨rfl, gv3⟩
          have Zv3 : v2.heap.size ≤ v3.heap.size := by have := gv3.size; (try simp at this); omega
          have Gv3 := Lib.hid gv3; clear gv3
          refine hK.out _ _ (KEEP.out _ (ext_trans (ext_trans (ext_trans (ext_drew (Below.refl wa.heap.size wa)) Gv1.out) Gv2.out) Gv3.out)) (fun hHeld => ?_)
          clear hK K
          try simp only [Act.put, List.setIfInBounds_toArray, List.set_cons_zero, List.set_cons_succ]
          refine wpAnyH_ready (rs := [9, 14]) (by kernel_rfl) (by simp) ?_
          refine AllReadyH.cons rfl (fun K hK => ?_) ?_
          · go_simp
            refine (line_any _ _ _ _ _ _ _).mono ?_; rintro e v4 ⟨rfl, gv4⟩
            have Zv4 : v3.heap.size ≤ v4.heap.size := by have := gv4.size; (try simp at this); omega
            have Gv4 := Lib.hid gv4; clear gv4
            refine hK.out _ _ (KEEP.out _ (ext_trans (ext_trans (ext_trans (ext_trans (ext_drew (Below.refl wa.heap.size wa)) Gv1.out) Gv2.out) Gv3.out) Gv4.out)) (fun hHeld => ?_)
            clear hK K
            try simp only [Act.put, List.setIfInBounds_toArray, List.set_cons_zero, List.set_cons_succ]
            refine wpAnyH_ready (rs := [11, 14]) (by kernel_rfl) (by simp) ?_
            refine AllReadyH.cons rfl (fun K hK => ?_) ?_
            · go_simp
              refine (line_any _ _ _ _ _ _ _).mono ?_; rintro e v5 ⟨rfl, gv5⟩
              have Zv5 : v4.heap.size ≤ v5.heap.size := by have := gv5.size; (try simp at this); omega
              have Gv5 := Lib.hid gv5; clear gv5
              refine hK.out _ _ (KEEP.out _ (ext_trans (ext_trans (ext_trans (ext_trans (ext_trans (ext_drew (Below.refl wa.heap.size wa)) Gv1.out) Gv2.out) Gv3.out) Gv4.out) Gv5.out)) (fun hHeld => ?_)
              clear hK K
              try simp only [Act.put, List.setIfInBounds_toArray, List.set_cons_zero, List.set_cons_succ]
              refine wpAnyH_ready (rs := [12, 14]) (by kernel_rfl) (by simp) ?_
              refine AllReadyH.cons rfl (fun K hK => ?_) ?_
              · go_simp
                have HL6 : Hid ((v5.alloc (.cells ((plainC (opsL (1 + p) 0 x y) []).lines.flatMap cellsL).toArray 41)).heap[v5.heap.size]? = some (.cells ((plainC (opsL (1 + p) 0 x y) []).lines.flatMap cellsL).toArray 41 (0, 0))) := Lib.hid (heap_new' _ _ _ (by first | rfl | simp))
                refine hK.out _ _ (KEEP.out _ (ext_alloc (ext_trans (ext_trans (ext_trans (ext_trans (ext_trans (ext_drew (Below.refl wa.heap.size wa)) Gv1.out) Gv2.out) Gv3.out) Gv4.out) Gv5.out) (.cells ((plainC (opsL (1 + p) 0 x y) []).lines.flatMap cellsL).toArray 41))) (fun hHeld => ?_)
                clear hK K
                try simp only [Act.put, List.setIfInBounds_toArray, List.set_cons_zero, List.set_cons_succ]
                refine wpAnyH_take (i := 13) (v := ?_) rfl (by kernel_rfl) (by kernel_rfl) (by kernel_rfl) (fun _ _ _ h => h) (Or.inl ⟨by rfl, ?hy⟩) (KEEP.out _ (ext_alloc (ext_trans (ext_trans (ext_trans (ext_trans (ext_trans (ext_drew (Below.refl wa.heap.size wa)) Gv1.out) Gv2.out) Gv3.out) Gv4.out) Gv5.out) (.cells ((plainC (opsL (1 + p) 0 x y) []).lines.flatMap cellsL).toArray 41))) ?_
                case hy => (intro w hSw; go_simp; try (with_reducible rfl))
                try simp only [Act.put, List.setIfInBounds_toArray, List.set_cons_zero, List.set_cons_succ]
                refine wpAnyH_ready (rs := [14]) (by kernel_rfl) (by simp) ?_
                refine AllReadyH.cons rfl (fun K hK => ?_) AllReadyH.nil
                go_simp
                have HL7 : Hid (((v5.alloc (.cells ((plainC (opsL (1 + p) 0 x y) []).lines.flatMap cellsL).toArray 41)).alloc (.cells #[.slice none 0 0, .slice none 0 0] 27)).heap[v5.heap.size]? = some (.cells ((plainC (opsL (1 + p) 0 x y) []).lines.flatMap cellsL).toArray 41 (0, 0))) := Lib.hid ((Lib.alloc_old _ _ _ (Array.getElem?_eq_some_iff.1 HL6.out).1).trans HL6.out)
                have HC7 : Hid (((v5.alloc (.cells ((plainC (opsL (1 + p) 0 x y) []).lines.flatMap cellsL).toArray 41)).alloc (.cells #[.slice none 0 0, .slice none 0 0] 27)).heap[v5.heap.size + 1]? = some (.cells #[.slice none 0 0, .slice none 0 0] 27 (0, 0))) := Lib.hid (heap_new' _ _ _ (by first | rfl | simp))
                refine hK.out _ _ (KEEP.out _ (ext_alloc (ext_alloc (ext_trans (ext_trans (ext_trans (ext_trans (ext_trans (ext_drew (Below.refl wa.heap.size wa)) Gv1.out) Gv2.out) Gv3.out) Gv4.out) Gv5.out) (.cells ((plainC (opsL (1 + p) 0 x y) []).lines.flatMap cellsL).toArray 41)) (.cells #[.slice none 0 0, .slice none 0 0] 27))) (fun hHeld => ?_)
                clear hK K
                try simp only [Act.put, List.setIfInBounds_toArray, List.set_cons_zero, List.set_cons_succ]
                refine wpAnyH_ready (rs := [15]) (by kernel_rfl) (by simp) ?_
                refine AllReadyH.cons rfl (fun K hK => ?_) AllReadyH.nil
                rw [if_pos (by rfl)]
                refine wp_store_mid 27 _ _ rfl (v5.heap.size + 1) 0 #[.slice none 0 0, .slice (some ⟨v5.heap.size, 0, none⟩) 5 5] rfl rfl (there2 HC7.out) infoCode (by simp [Value.oneCell']) ?_
                have BL := Lib.hid (setCells_below (b := v5.heap.size + 1) [.slice none 0 0, .slice (some ⟨v5.heap.size, 0, none⟩) 5 5] 0 _ _ (ext_alloc (ext_alloc (ext_trans (ext_trans (ext_trans (ext_trans (ext_trans (ext_drew (Below.refl wa.heap.size wa)) Gv1.out) Gv2.out) Gv3.out) Gv4.out) Gv5.out) (.cells ((plainC (opsL (1 + p) 0 x y) []).lines.flatMap cellsL).toArray 41)) (.cells #[.slice none 0 0, .slice none 0 0] 27)) (show wa.heap.size ≤ v5.heap.size + 1 by omega))
                refine hK.out _ _ (KEEP.out _ BL.out) (fun hHeld => ?_)
                clear hK K
                try simp only [Act.put, List.setIfInBounds_toArray, List.set_cons_zero, List.set_cons_succ]
                refine wpAnyH_done (by kernel_rfl) ?_ _
                have HLD := Lib.hid (opr_mk (s10 := .pointer (some ⟨v5.heap.size + 1, 0, none⟩)) 0 G1.out HB.out BL.out zb rfl (show wa.heap.size ≤ v5.heap.size + 1 by omega) (store2 HC7.out _ _) ((setCells_other _ _ _ _ (show v5.heap.size ≠ v5.heap.size + 1 by omega)).trans HL7.out))
                go_wp2_with fail
                go_meet
                case rel => exact HLD.out
              refine AllReadyH.cons rfl (fun K hK => ?_) AllReadyH.nil
              go_simp
              have HC6 : Hid ((v5.alloc (.cells #[.slice none 0 0, .slice none 0 0] 27)).heap[v5.heap.size]? = some (.cells #[.slice none 0 0, .slice none 0 0] 27 (0, 0))) := Lib.hid (heap_new' _ _ _ (by first | rfl | simp))
              refine hK.out _ _ (KEEP.out _ (ext_alloc (ext_trans (ext_trans (ext_trans (ext_trans (ext_trans (ext_drew (Below.refl wa.heap.size wa)) Gv1.out) Gv2.out) Gv3.out) Gv4.out) Gv5.out) (.cells #[.slice none 0 0, .slice none 0 0] 27))) (fun hHeld => ?_)
              clear hK K
              try simp only [Act.put, List.setIfInBounds_toArray, List.set_cons_zero, List.set_cons_succ]
              refine wpAnyH_ready (rs := [12]) (by kernel_rfl) (by simp) ?_
              refine AllReadyH.cons rfl (fun K hK => ?_) AllReadyH.nil
              go_simp
              have HC7 : Hid (((v5.alloc (.cells #[.slice none 0 0, .slice none 0 0] 27)).alloc (.cells ((plainC (opsL (1 + p) 0 x y) []).lines.flatMap cellsL).toArray 41)).heap[v5.heap.size]? = some (.cells #[.slice none 0 0, .slice none 0 0] 27 (0, 0))) := Lib.hid ((Lib.alloc_old _ _ _ (Array.getElem?_eq_some_iff.1 HC6.out).1).trans HC6.out)
              have HL7 : Hid (((v5.alloc (.cells #[.slice none 0 0, .slice none 0 0] 27)).alloc (.cells ((plainC (opsL (1 + p) 0 x y) []).lines.flatMap cellsL).toArray 41)).heap[v5.heap.size + 1]? = some (.cells ((plainC (opsL (1 + p) 0 x y) []).lines.flatMap cellsL).toArray 41 (0, 0))) := Lib.hid (heap_new' _ _ _ (by first | rfl | simp))
              refine hK.out _ _ (KEEP.out _ (ext_alloc (ext_alloc (ext_trans (ext_trans (ext_trans (ext_trans (ext_trans (ext_drew (Below.refl wa.heap.size wa)) Gv1.out) Gv2.out) Gv3.out) Gv4.out) Gv5.out) (.cells #[.slice none 0 0, .slice none 0 0] 27)) (.cells ((plainC (opsL (1 + p) 0 x y) []).lines.flatMap cellsL).toArray 41))) (fun hHeld => ?_)
              clear hK K
              try simp only [Act.put, List.setIfInBounds_toArray, List.set_cons_zero, List.set_cons_succ]
              refine wpAnyH_take (i := 13) (v := ?_) rfl (by kernel_rfl) (by kernel_rfl) (by kernel_rfl) (fun _ _ _ h => h) (Or.inl ⟨by rfl, ?hy⟩) (KEEP.out _ (ext_alloc (ext_alloc (ext_trans (ext_trans (ext_trans (ext_trans (ext_trans (ext_drew (Below.refl wa.heap.size wa)) Gv1.out) Gv2.out) Gv3.out) Gv4.out) Gv5.out) (.cells #[.slice none 0 0, .slice none 0 0] 27)) (.cells ((plainC (opsL (1 + p) 0 x y) []).lines.flatMap cellsL).toArray 41))) ?_
              case hy => (intro w hSw; go_simp; try (with_reducible rfl))
              try simp only [Act.put, List.setIfInBounds_toArray, List.set_cons_zero, List.set_cons_succ]
              refine wpAnyH_ready (rs := [15]) (by kernel_rfl) (by simp) ?_
              refine AllReadyH.cons rfl (fun K hK => ?_) AllReadyH.nil
              rw [if_pos (by rfl)]
              refine wp_store_mid 27 _ _ rfl (v5.heap.size) 0 #[.slice none 0 0, .slice (some ⟨v5.heap.size + 1, 0, none⟩) 5 5] rfl rfl (there2 HC7.out) infoCode (by simp [Value.oneCell']) ?_
              have BL := Lib.hid (setCells_below (b := v5.heap.size) [.slice none 0 0, .slice (some ⟨v5.heap.size + 1, 0, none⟩) 5 5] 0 _ _ (ext_alloc (ext_alloc (ext_trans (ext_trans (ext_trans (ext_trans (ext_trans (ext_drew (Below.refl wa.heap.size wa)) Gv1.out) Gv2.out) Gv3.out) Gv4.out) Gv5.out) (.cells #[.slice none 0 0, .slice none 0 0] 27)) (.cells ((plainC (opsL (1 + p) 0 x y) []).lines.flatMap cellsL).toArray 41)) (show wa.heap.size ≤ v5.heap.size by omega))
              refine hK.out _ _ (KEEP.out _ BL.out) (fun hHeld => ?_)
              clear hK K
              try simp only [Act.put, List.setIfInBounds_toArray, List.set_cons_zero, List.set_cons_succ]
              refine wpAnyH_done (by kernel_rfl) ?_ _
              have HLD := Lib.hid (opr_mk (s10 := .pointer (some ⟨v5.heap.size, 0, none⟩)) 0 G1.out HB.out BL.out zb rfl (show wa.heap.size ≤ v5.heap.size by omega) (store2 HC7.out _ _) ((setCells_other _ _ _ _ (show v5.heap.size + 1 ≠ v5.heap.size by omega)).trans HL7.out))
              go_wp2_with fail
              go_meet
              case rel => exact HLD.out
            refine AllReadyH.cons rfl (fun K hK => ?_) AllReadyH.nil
            go_simp
            have HC5 : Hid ((v4.alloc (.cells #[.slice none 0 0, .slice none 0 0] 27)).heap[v4.heap.size]? = some (.cells #[.slice none 0 0, .slice none 0 0] 27 (0, 0))) := Lib.hid (heap_new' _ _ _ (by first | rfl | simp))
            refine hK.out _ _ (KEEP.out _ (ext_alloc (ext_trans (ext_trans (ext_trans (ext_trans (ext_drew (Below.refl wa.heap.size wa)) Gv1.out) Gv2.out) Gv3.out) Gv4.out) (.cells #[.slice none 0 0, .slice none 0 0] 27))) (fun hHeld => ?_)
            clear hK K
            try simp only [Act.put, List.setIfInBounds_toArray, List.set_cons_zero, List.set_cons_succ]
            refine wpAnyH_ready (rs := [11]) (by kernel_rfl) (by simp) ?_
            refine AllReadyH.cons rfl (fun K hK => ?_) AllReadyH.nil
            go_simp
            refine (line_any _ _ _ _ _ _ _).mono ?_; rintro e v6 ⟨rfl, gv6⟩
            have Zv6 : v4.heap.size + 1 ≤ v6.heap.size := by have := gv6.size; (try simp at this); omega
            have Gv6 := Lib.hid gv6; clear gv6
            have HC6 : Hid (v6.heap[v4.heap.size]? = some (.cells #[.slice none 0 0, .slice none 0 0] 27 (0, 0))) := Lib.hid ((Gv6.out.block _ (Array.getElem?_eq_some_iff.1 HC5.out).1).trans HC5.out)
            refine hK.out _ _ (KEEP.out _ (ext_trans (ext_alloc (ext_trans (ext_trans (ext_trans (ext_trans (ext_drew (Below.refl wa.heap.size wa)) Gv1.out) Gv2.out) Gv3.out) Gv4.out) (.cells #[.slice none 0 0, .slice none 0 0] 27)) Gv6.out)) (fun hHeld => ?_)
            clear hK K
            try simp only [Act.put, List.setIfInBounds_toArray, List.set_cons_zero, List.set_cons_succ]
            refine wpAnyH_ready (rs := [12]) (by kernel_rfl) (by simp) ?_
            refine AllReadyH.cons rfl (fun K hK => ?_) AllReadyH.nil
            go_simp
            have HC7 : Hid ((v6.alloc (.cells ((plainC (opsL (1 + p) 0 x y) []).lines.flatMap cellsL).toArray 41)).heap[v4.heap.size]? = some (.cells #[.slice none 0 0, .slice none 0 0] 27 (0, 0))) := Lib.hid ((Lib.alloc_old _ _ _ (Array.getElem?_eq_some_iff.1 HC6.out).1).trans HC6.out)
            have HL7 : Hid ((v6.alloc (.cells ((plainC (opsL (1 + p) 0 x y) []).lines.flatMap cellsL).toArray 41)).heap[v6.heap.size]? = some (.cells ((plainC (opsL (1 + p) 0 x y) []).lines.flatMap cellsL).toArray 41 (0, 0))) := Lib.hid (heap_new' _ _ _ (by first | rfl | simp))
            refine hK.out _ _ (KEEP.out _ (ext_alloc (ext_trans (ext_alloc (ext_trans (ext_trans (ext_trans (ext_trans (ext_drew (Below.refl wa.heap.size wa)) Gv1.out) Gv2.out) Gv3.out) Gv4.out) (.cells #[.slice none 0 0, .slice none 0 0] 27)) Gv6.out) (.cells ((plainC (opsL (1 + p) 0 x y) []).lines.flatMap cellsL).toArray 41))) (fun hHeld => ?_)
            clear hK K
            try simp only [Act.put, List.setIfInBounds_toArray, List.set_cons_zero, List.set_cons_succ]
            refine wpAnyH_take (i := 13) (v := ?_) rfl (by kernel_rfl) (by kernel_rfl) (by kernel_rfl) (fun _ _ _ h => h) (Or.inl ⟨by rfl, ?hy⟩) (KEEP.out _ (ext_alloc (ext_trans (ext_alloc (ext_trans (ext_trans (ext_trans (ext_trans (ext_drew (Below.refl wa.heap.size wa)) Gv1.out) Gv2.out) Gv3.out) Gv4.out) (.cells #[.slice none 0 0, .slice none 0 0] 27)) Gv6.out) (.cells ((plainC (opsL (1 + p) 0 x y) []).lines.flatMap cellsL).toArray 41))) ?_
            case hy => (intro w hSw; go_simp; try (with_reducible rfl))
            try simp only [Act.put, List.setIfInBounds_toArray, List.set_cons_zero, List.set_cons_succ]
            refine wpAnyH_ready (rs := [15]) (by kernel_rfl) (by simp) ?_
            refine AllReadyH.cons rfl (fun K hK => ?_) AllReadyH.nil
            rw [if_pos (by rfl)]
            refine wp_store_mid 27 _ _ rfl (v4.heap.size) 0 #[.slice none 0 0, .slice (some ⟨v6.heap.size, 0, none⟩) 5 5] rfl rfl (there2 HC7.out) infoCode (by simp [Value.oneCell']) ?_
            have BL := Lib.hid (setCells_below (b := v4.heap.size) [.slice none 0 0, .slice (some ⟨v6.heap.size, 0, none⟩) 5 5] 0 _ _ (ext_alloc (ext_trans (ext_alloc (ext_trans (ext_trans (ext_trans (ext_trans (ext_drew (Below.refl wa.heap.size wa)) Gv1.out) Gv2.out) Gv3.out) Gv4.out) (.cells #[.slice none 0 0, .slice none 0 0] 27)) Gv6.out) (.cells ((plainC (opsL (1 + p) 0 x y) []).lines.flatMap cellsL).toArray 41)) (show wa.heap.size ≤ v4.heap.size by omega))
            refine hK.out _ _ (KEEP.out _ BL.out) (fun hHeld => ?_)
            clear hK K
            try simp only [Act.put, List.setIfInBounds_toArray, List.set_cons_zero, List.set_cons_succ]
            refine wpAnyH_done (by kernel_rfl) ?_ _
            have HLD := Lib.hid (opr_mk (s10 := .pointer (some ⟨v4.heap.size, 0, none⟩)) 0 G1.out HB.out BL.out zb rfl (show wa.heap.size ≤ v4.heap.size by omega) (store2 HC7.out _ _) ((setCells_other _ _ _ _ (show v6.heap.size ≠ v4.heap.size by omega)).trans HL7.out))
            go_wp2_with fail
            go_meet
            case rel => exact HLD.out
          refine AllReadyH.cons rfl (fun K hK => ?_) AllReadyH.nil
          go_simp
          have HC4 : Hid ((v3.alloc (.cells #[.slice none 0 0, .slice none 0 0] 27)).heap[v3.heap.size]? = some (.cells #[.slice none 0 0, .slice none 0 0] 27 (0, 0))) := Lib.hid (heap_new' _ _ _ (by first | rfl | simp))
          refine hK.out _ _ (KEEP.out _ (ext_alloc (ext_trans (ext_trans (ext_trans (ext_drew (Below.refl wa.heap.size wa)) Gv1.out) Gv2.out) Gv3.out) (.cells #[.slice none 0 0, .slice none 0 0] 27))) (fun hHeld => ?_)
          clear hK K
          try simp only [Act.put, List.setIfInBounds_toArray, List.set_cons_zero, List.set_cons_succ]
          refine wpAnyH_ready (rs := [9]) (by kernel_rfl) (by simp) ?_
          refine AllReadyH.cons rfl (fun K hK => ?_) AllReadyH.nil
          go_simp
          refine (line_any _ _ _ _ _ _ _).mono ?_; rintro e v5 ⟨rfl, gv5⟩
          have Zv5 : v3.heap.size + 1 ≤ v5.heap.size := by have := gv5.size; (try simp at this); omega
          have Gv5 := Lib.hid gv5; clear gv5
          have HC5 : Hid (v5.heap[v3.heap.size]? = some (.cells #[.slice none 0 0, .slice none 0 0] 27 (0, 0))) := Lib.hid ((Gv5.out.block _ (Array.getElem?_eq_some_iff.1 HC4.out).1).trans HC4.out)
          refine hK.out _ _ (KEEP.out _ (ext_trans (ext_alloc (ext_trans (ext_trans (ext_trans (ext_drew (Below.refl wa.heap.size wa)) Gv1.out) Gv2.out) Gv3.out) (.cells #[.slice none 0 0, .slice none 0 0] 27)) Gv5.out)) (fun hHeld => ?_)
          clear hK K
          try simp only [Act.put, List.setIfInBounds_toArray, List.set_cons_zero, List.set_cons_succ]
          refine wpAnyH_ready (rs := [11]) (by kernel_rfl) (by simp) ?_
          refine AllReadyH.cons rfl (fun K hK => ?_) AllReadyH.nil
          go_simp
          refine (line_any _ _ _ _ _ _ _).mono ?_; rintro e v6 ⟨rfl, gv6⟩
          have Zv6 : v5.heap.size ≤ v6.heap.size := by have := gv6.size; (try simp at this); omega
          have Gv6 := Lib.hid gv6; clear gv6
          have HC6 : Hid (v6.heap[v3.heap.size]? = some (.cells #[.slice none 0 0, .slice none 0 0] 27 (0, 0))) := Lib.hid ((Gv6.out.block _ (Array.getElem?_eq_some_iff.1 HC5.out).1).trans HC5.out)
          refine hK.out _ _ (KEEP.out _ (ext_trans (ext_trans (ext_alloc (ext_trans (ext_trans (ext_trans (ext_drew (Below.refl wa.heap.size wa)) Gv1.out) Gv2.out) Gv3.out) (.cells #[.slice none 0 0, .slice none 0 0] 27)) Gv5.out) Gv6.out)) (fun hHeld => ?_)
          clear hK K
          try simp only [Act.put, List.setIfInBounds_toArray, List.set_cons_zero, List.set_cons_succ]
          refine wpAnyH_ready (rs := [12]) (by kernel_rfl) (by simp) ?_
          refine AllReadyH.cons rfl (fun K hK => ?_) AllReadyH.nil
          go_simp
          have HC7 : Hid ((v6.alloc (.cells ((plainC (opsL (1 + p) 0 x y) []).lines.flatMap cellsL).toArray 41)).heap[v3.heap.size]? = some (.cells #[.slice none 0 0, .slice none 0 0] 27 (0, 0))) := Lib.hid ((Lib.alloc_old _ _ _ (Array.getElem?_eq_some_iff.1 HC6.out).1).trans HC6.out)
          have HL7 : Hid ((v6.alloc (.cells ((plainC (opsL (1 + p) 0 x y) []).lines.flatMap cellsL).toArray 41)).heap[v6.heap.size]? = some (.cells ((plainC (opsL (1 + p) 0 x y) []).lines.flatMap cellsL).toArray 41 (0, 0))) := Lib.hid (heap_new' _ _ _ (by first | rfl | simp))
          refine hK.out _ _ (KEEP.out _ (ext_alloc (ext_trans (ext_trans (ext_alloc (ext_trans (ext_trans (ext_trans (ext_drew (Below.refl wa.heap.size wa)) Gv1.out) Gv2.out) Gv3.out) (.cells #[.slice none 0 0, .slice none 0 0] 27)) Gv5.out) Gv6.out) (.cells ((plainC (opsL (1 + p) 0 x y) []).lines.flatMap cellsL).toArray 41))) (fun hHeld => ?_)
          clear hK K
          try simp only [Act.put, List.setIfInBounds_toArray, List.set_cons_zero, List.set_cons_succ]
          refine wpAnyH_take (i := 13) (v := ?_) rfl (by kernel_rfl) (by kernel_rfl) (by kernel_rfl) (fun _ _ _ h => h) (Or.inl ⟨by rfl, ?hy⟩) (KEEP.out _ (ext_alloc (ext_trans (ext_trans (ext_alloc (ext_trans (ext_trans (ext_trans (ext_drew (Below.refl wa.heap.size wa)) Gv1.out) Gv2.out) Gv3.out) (.cells #[.slice none 0 0, .slice none 0 0] 27)) Gv5.out) Gv6.out) (.cells ((plainC (opsL (1 + p) 0 x y) []).lines.flatMap cellsL).toArray 41))) ?_
          case hy => (intro w hSw; go_simp; try (with_reducible rfl))
          try simp only [Act.put, List.setIfInBounds_toArray, List.set_cons_zero, List.set_cons_succ]
          refine wpAnyH_ready (rs := [15]) (by kernel_rfl) (by simp) ?_
          refine AllReadyH.cons rfl (fun K hK => ?_) AllReadyH.nil
          rw [if_pos (by rfl)]
          refine wp_store_mid 27 _ _ rfl (v3.heap.size) 0 #[.slice none 0 0, .slice (some ⟨v6.heap.size, 0, none⟩) 5 5] rfl rfl (there2 HC7.out) infoCode (by simp [Value.oneCell']) ?_
          have BL := Lib.hid (setCells_below (b := v3.heap.size) [.slice none 0 0, .slice (some ⟨v6.heap.size, 0, none⟩) 5 5] 0 _ _ (ext_alloc (ext_trans (ext_trans (ext_alloc (ext_trans (ext_trans (ext_trans (ext_drew (Below.refl wa.heap.size wa)) Gv1.out) Gv2.out) Gv3.out) (.cells #[.slice none 0 0, .slice none 0 0] 27)) Gv5.out) Gv6.out) (.cells ((plainC (opsL (1 + p) 0 x y) []).lines.flatMap cellsL).toArray 41)) (show wa.heap.size ≤ v3.heap.size by omega))
          refine hK.out _ _ (KEEP.out _ BL.out) (fun hHeld => ?_)
          clear hK K
          try simp only [Act.put, List.setIfInBounds_toArray, List.set_cons_zero, List.set_cons_succ]
          refine wpAnyH_done (by kernel_rfl) ?_ _
          have HLD := Lib.hid (opr_mk (s10 := .pointer (some ⟨v3.heap.size, 0, none⟩)) 0 G1.out HB.out BL.out zb rfl (show wa.heap.size ≤ v3.heap.size by omega) (store2 HC7.out _ _) ((setCells_other _ _ _ _ (show v6.heap.size ≠ v3.heap.size by omega)).trans HL7.out))
          go_wp2_with fail
          go_meet
          case rel => exact HLD.out
        refine AllReadyH.cons rfl (fun K hK => ?_) AllReadyH.nil
        go_simp
        have HC3 : Hid ((v2.alloc (.cells #[.slice none 0 0, .slice none 0 0] 27)).heap[v2.heap.size]? = some (.cells #[.slice none 0 0, .slice none 0 0] 27 (0, 0))) := Lib.hid (heap_new' _ _ _ (by first | rfl | simp))
        refine hK.out _ _ (KEEP.out _ (ext_alloc (ext_trans (ext_trans (ext_drew (Below.refl wa.heap.size wa)) Gv1.out) Gv2.out) (.cells #[.slice none 0 0, .slice none 0 0] 27))) (fun hHeld => ?_)
        clear hK K
        try simp only [Act.put, List.setIfInBounds_toArray, List.set_cons_zero, List.set_cons_succ]
        refine wpAnyH_ready (rs := [7]) (by kernel_rfl) (by simp) ?_
        refine AllReadyH.cons rfl (fun K hK => ?_) AllReadyH.nil
        go_simp
        refine (line_any _ _ _ _ _ _ _).mono ?_; rintro e v4 ⟨rfl, gv4⟩
        have Zv4 : v2.heap.size + 1 ≤ v4.heap.size := by have := gv4.size; (try simp at this); omega
        have Gv4 := Lib.hid gv4; clear gv4
        have HC4 : Hid (v4.heap[v2.heap.size]? = some (.cells #[.slice none 0 0, .slice none 0 0] 27 (0, 0))) := Lib.hid ((Gv4.out.block _ (Array.getElem?_eq_some_iff.1 HC3.out).1).trans HC3.out)
        refine hK.out _ _ (KEEP.out _ (ext_trans (ext_alloc (ext_trans (ext_trans (ext_drew (Below.refl wa.heap.size wa)) Gv1.out) Gv2.out) (.cells #[.slice none 0 0, .slice none 0 0] 27)) Gv4.out)) (fun hHeld => ?_)
        clear hK K
        try simp only [Act.put, List.setIfInBounds_toArray, List.set_cons_zero, List.set_cons_succ]
        refine wpAnyH_ready (rs := [9]) (by kernel_rfl) (by simp) ?_
        refine AllReadyH.cons rfl (fun K hK => ?_) AllReadyH.nil
        go_simp
        refine (line_any _ _ _ _ _ _ _).mono ?_; rintro e v5 ⟨rfl, gv5⟩
        have Zv5 : v4.heap.size ≤ v5.heap.size := by have := gv5.size; (try simp at this); omega
        have Gv5 := Lib.hid gv5; clear gv5
        have HC5 : Hid (v5.heap[v2.heap.size]? = some (.cells #[.slice none 0 0, .slice none 0 0] 27 (0, 0))) := Lib.hid ((Gv5.out.block _ (Array.getElem?_eq_some_iff.1 HC4.out).1).trans HC4.out)
        refine hK.out _ _ (KEEP.out _ (ext_trans (ext_trans (ext_alloc (ext_trans (ext_trans (ext_drew (Below.refl wa.heap.size wa)) Gv1.out) Gv2.out) (.cells #[.slice none 0 0, .slice none 0 0] 27)) Gv4.out) Gv5.out)) (fun hHeld => ?_)
        clear hK K
        try simp only [Act.put, List.setIfInBounds_toArray, List.set_cons_zero, List.set_cons_succ]
        refine wpAnyH_ready (rs := [11]) (by kernel_rfl) (by simp) ?_
        refine AllReadyH.cons rfl (fun K hK => ?_) AllReadyH.nil
        go_simp
        refine (line_any _ _ _ _ _ _ _).mono ?_; rintro e v6 ⟨rfl, gv6⟩
        have Zv6 : v5.heap.size ≤ v6.heap.size := by have := gv6.size; (try simp at this); omega
        have Gv6 := Lib.hid gv6; clear gv6
        have HC6 : Hid (v6.heap[v2.heap.size]? = some (.cells #[.slice none 0 0, .slice none 0 0] 27 (0, 0))) := Lib.hid ((Gv6.out.block _ (Array.getElem?_eq_some_iff.1 HC5.out).1).trans HC5.out)
        refine hK.out _ _ (KEEP.out _ (ext_trans (ext_trans (ext_trans (ext_alloc (ext_trans (ext_trans (ext_drew (Below.refl wa.heap.size wa)) Gv1.out) Gv2.out) (.cells #[.slice none 0 0, .slice none 0 0] 27)) Gv4.out) Gv5.out) Gv6.out)) (fun hHeld => ?_)
        clear hK K
        try simp only [Act.put, List.setIfInBounds_toArray, List.set_cons_zero, List.set_cons_succ]
        refine wpAnyH_ready (rs := [12]) (by kernel_rfl) (by simp) ?_
        refine AllReadyH.cons rfl (fun K hK => ?_) AllReadyH.nil
        go_simp
        have HC7 : Hid ((v6.alloc (.cells ((plainC (opsL (1 + p) 0 x y) []).lines.flatMap cellsL).toArray 41)).heap[v2.heap.size]? = some (.cells #[.slice none 0 0, .slice none 0 0] 27 (0, 0))) := Lib.hid ((Lib.alloc_old _ _ _ (Array.getElem?_eq_some_iff.1 HC6.out).1).trans HC6.out)
        have HL7 : Hid ((v6.alloc (.cells ((plainC (opsL (1 + p) 0 x y) []).lines.flatMap cellsL).toArray 41)).heap[v6.heap.size]? = some (.cells ((plainC (opsL (1 + p) 0 x y) []).lines.flatMap cellsL).toArray 41 (0, 0))) := Lib.hid (heap_new' _ _ _ (by first | rfl | simp))
        refine hK.out _ _ (KEEP.out _ (ext_alloc (ext_trans (ext_trans (ext_trans (ext_alloc (ext_trans (ext_trans (ext_drew (Below.refl wa.heap.size wa)) Gv1.out) Gv2.out) (.cells #[.slice none 0 0, .slice none 0 0] 27)) Gv4.out) Gv5.out) Gv6.out) (.cells ((plainC (opsL (1 + p) 0 x y) []).lines.flatMap cellsL).toArray 41))) (fun hHeld => ?_)
        clear hK K
        try simp only [Act.put, List.setIfInBounds_toArray, List.set_cons_zero, List.set_cons_succ]
        refine wpAnyH_take (i := 13) (v := ?_) rfl (by kernel_rfl) (by kernel_rfl) (by kernel_rfl) (fun _ _ _ h => h) (Or.inl ⟨by rfl, ?hy⟩) (KEEP.out _ (ext_alloc (ext_trans (ext_trans (ext_trans (ext_alloc (ext_trans (ext_trans (ext_drew (Below.refl wa.heap.size wa)) Gv1.out) Gv2.out) (.cells #[.slice none 0 0, .slice none 0 0] 27)) Gv4.out) Gv5.out) Gv6.out) (.cells ((plainC (opsL (1 + p) 0 x y) []).lines.flatMap cellsL).toArray 41))) ?_
        case hy => (intro w hSw; go_simp; try (with_reducible rfl))
        try simp only [Act.put, List.setIfInBounds_toArray, List.set_cons_zero, List.set_cons_succ]
        refine wpAnyH_ready (rs := [15]) (by kernel_rfl) (by simp) ?_
        refine AllReadyH.cons rfl (fun K hK => ?_) AllReadyH.nil
        rw [if_pos (by rfl)]
        refine wp_store_mid 27 _ _ rfl (v2.heap.size) 0 #[.slice none 0 0, .slice (some ⟨v6.heap.size, 0, none⟩) 5 5] rfl rfl (there2 HC7.out) infoCode (by simp [Value.oneCell']) ?_
        have BL := Lib.hid (setCells_below (b := v2.heap.size) [.slice none 0 0, .slice (some ⟨v6.heap.size, 0, none⟩) 5 5] 0 _ _ (ext_alloc (ext_trans (ext_trans (ext_trans (ext_alloc (ext_trans (ext_trans (ext_drew (Below.refl wa.heap.size wa)) Gv1.out) Gv2.out) (.cells #[.slice none 0 0, .slice none 0 0] 27)) Gv4.out) Gv5.out) Gv6.out) (.cells ((plainC (opsL (1 + p) 0 x y) []).lines.flatMap cellsL).toArray 41)) (show wa.heap.size ≤ v2.heap.size by omega))
        refine hK.out _ _ (KEEP.out _ BL.out) (fun hHeld => ?_)
        clear hK K
        try simp only [Act.put, List.setIfInBounds_toArray, List.set_cons_zero, List.set_cons_succ]
        refine wpAnyH_done (by kernel_rfl) ?_ _
        have HLD := Lib.hid (opr_mk (s10 := .pointer (some ⟨v2.heap.size, 0, none⟩)) 0 G1.out HB.out BL.out zb rfl (show wa.heap.size ≤ v2.heap.size by omega) (store2 HC7.out _ _) ((setCells_other _ _ _ _ (show v6.heap.size ≠ v2.heap.size by omega)).trans HL7.out))
        go_wp2_with fail
        go_meet
        case rel => exact HLD.out
      refine AllReadyH.cons rfl (fun K hK => ?_) AllReadyH.nil
      go_simp
      have HC2 : Hid ((v1.alloc (.cells #[.slice none 0 0, .slice none 0 0] 27)).heap[v1.heap.size]? = some (.cells #[.slice none 0 0, .slice none 0 0] 27 (0, 0))) := Lib.hid (heap_new' _ _ _ (by first | rfl | simp))
      refine hK.out _ _ (KEEP.out _ (ext_alloc (ext_trans (ext_drew (Below.refl wa.heap.size wa)) Gv1.out) (.cells #[.slice none 0 0, .slice none 0 0] 27))) (fun hHeld => ?_)
      clear hK K
      try simp only [Act.put, List.setIfInBounds_toArray, List.set_cons_zero, List.set_cons_succ]
      refine wpAnyH_ready (rs := [5]) (by kernel_rfl) (by simp) ?_
      refine AllReadyH.cons rfl (fun K hK => ?_) AllReadyH.nil
      go_simp
      refine (line_any _ _ _ _ _ _ _).mono ?_; rintro e v3 ⟨rfl, gv3⟩
      have Zv3 : v1.heap.size + 1 ≤ v3.heap.size := by have := gv3.size; (try simp at this); omega
      have Gv3 := Lib.hid gv3; clear gv3
      have HC3 : Hid (v3.heap[v1.heap.size]? = some (.cells #[.slice none 0 0, .slice none 0 0] 27 (0, 0))) := Lib.hid ((Gv3.out.block _ (Array.getElem?_eq_some_iff.1 HC2.out).1).trans HC2.out)
      refine hK.out _ _ (KEEP.out _ (ext_trans (ext_alloc (ext_trans (ext_drew (Below.refl wa.heap.size wa)) Gv1.out) (.cells #[.slice none 0 0, .slice none 0 0] 27)) Gv3.out)) (fun hHeld => ?_)
      clear hK K
      try simp only [Act.put, List.setIfInBounds_toArray, List.set_cons_zero, List.set_cons_succ]
      refine wpAnyH_ready (rs := [7]) (by kernel_rfl) (by simp) ?_
      refine AllReadyH.cons rfl (fun K hK => ?_) AllReadyH.nil
      go_simp
      refine (line_any _ _ _ _ _ _ _).mono ?_; rintro e v4 ⟨rfl, gv4⟩
      have Zv4 : v3.heap.size ≤ v4.heap.size := by have := gv4.size; (try simp at this); omega
      have Gv4 := Lib.hid gv4; clear gv4
      have HC4 : Hid (v4.heap[v1.heap.size]? = some (.cells #[.slice none 0 0, .slice none 0 0] 27 (0, 0))) := Lib.hid ((Gv4.out.block _ (Array.getElem?_eq_some_iff.1 HC3.out).1).trans HC3.out)
      refine hK.out _ _ (KEEP.out _ (ext_trans (ext_trans (ext_alloc (ext_trans (ext_drew (Below.refl wa.heap.size wa)) Gv1.out) (.cells #[.slice none 0 0, .slice none 0 0] 27)) Gv3.out) Gv4.out)) (fun hHeld => ?_)
      clear hK K
      try simp only [Act.put, List.setIfInBounds_toArray, List.set_cons_zero, List.set_cons_succ]
      refine wpAnyH_ready (rs := [9]) (by kernel_rfl) (by simp) ?_
      refine AllReadyH.cons rfl (fun K hK => ?_) AllReadyH.nil
      go_simp
      refine (line_any _ _ _ _ _ _ _).mono ?_; rintro e v5 ⟨rfl, gv5⟩
      have Zv5 : v4.heap.size ≤ v5.heap.size := by have := gv5.size; (try simp at this); omega
      have Gv5 := Lib.hid gv5; clear gv5
      have HC5 : Hid (v5.heap[v1.heap.size]? = some (.cells #[.slice none 0 0, .slice none 0 0] 27 (0, 0))) := Lib.hid ((Gv5.out.block _ (Array.getElem?_eq_some_iff.1 HC4.out).1).trans HC4.out)
      refine hK.out _ _ (KEEP.out _ (ext_trans (ext_trans (ext_trans (ext_alloc (ext_trans (ext_drew (Below.refl wa.heap.size wa)) Gv1.out) (.cells #[.slice none 0 0, .slice none 0 0] 27)) Gv3.out) Gv4.out) Gv5.out)) (fun hHeld => ?_)
      clear hK K
      try simp only [Act.put, List.setIfInBounds_toArray, List.set_cons_zero, List.set_cons_succ]
      refine wpAnyH_ready (rs := [11]) (by kernel_rfl) (by simp) ?_
      refine AllReadyH.cons rfl (fun K hK => ?_) AllReadyH.nil
      go_simp
      refine (line_any _ _ _ _ _ _ _).mono ?_; rintro e v6 ⟨rfl, gv6⟩
      have Zv6 : v5.heap.size ≤ v6.heap.size := by have := gv6.size; (try simp at this); omega
      have Gv6 := Lib.hid gv6; clear gv6
      have HC6 : Hid (v6.heap[v1.heap.size]? = some (.cells #[.slice none 0 0, .slice none 0 0] 27 (0, 0))) := Lib.hid ((Gv6.out.block _ (Array.getElem?_eq_some_iff.1 HC5.out).1).trans HC5.out)
      refine hK.out _ _ (KEEP.out _ (ext_trans (ext_trans (ext_trans (ext_trans (ext_alloc (ext_trans (ext_drew (Below.refl wa.heap.size wa)) Gv1.out) (.cells #[.slice none 0 0, .slice none 0 0] 27)) Gv3.out) Gv4.out) Gv5.out) Gv6.out)) (fun hHeld => ?_)
      clear hK K
      try simp only [Act.put, List.setIfInBounds_toArray, List.set_cons_zero, List.set_cons_succ]
      refine wpAnyH_ready (rs := [12]) (by kernel_rfl) (by simp) ?_
      refine AllReadyH.cons rfl (fun K hK => ?_) AllReadyH.nil
      go_simp
      have HC7 : Hid ((v6.alloc (.cells ((plainC (opsL (1 + p) 0 x y) []).lines.flatMap cellsL).toArray 41)).heap[v1.heap.size]? = some (.cells #[.slice none 0 0, .slice none 0 0] 27 (0, 0))) := Lib.hid ((Lib.alloc_old _ _ _ (Array.getElem?_eq_some_iff.1 HC6.out).1).trans HC6.out)
      have HL7 : Hid ((v6.alloc (.cells ((plainC (opsL (1 + p) 0 x y) []).lines.flatMap cellsL).toArray 41)).heap[v6.heap.size]? = some (.cells ((plainC (opsL (1 + p) 0 x y) []).lines.flatMap cellsL).toArray 41 (0, 0))) := Lib.hid (heap_new' _ _ _ (by first | rfl | simp))
      refine hK.out _ _ (KEEP.out _ (ext_alloc (ext_trans (ext_trans (ext_trans (ext_trans (ext_alloc (ext_trans (ext_drew (Below.refl wa.heap.size wa)) Gv1.out) (.cells #[.slice none 0 0, .slice none 0 0] 27)) Gv3.out) Gv4.out) Gv5.out) Gv6.out) (.cells ((plainC (opsL (1 + p) 0 x y) []).lines.flatMap cellsL).toArray 41))) (fun hHeld => ?_)
      clear hK K
      try simp only [Act.put, List.setIfInBounds_toArray, List.set_cons_zero, List.set_cons_succ]
      refine wpAnyH_take (i := 13) (v := ?_) rfl (by kernel_rfl) (by kernel_rfl) (by kernel_rfl) (fun _ _ _ h => h) (Or.inl ⟨by rfl, ?hy⟩) (KEEP.out _ (ext_alloc (ext_trans (ext_trans (ext_trans (ext_trans (ext_alloc (ext_trans (ext_drew (Below.refl wa.heap.size wa)) Gv1.out) (.cells #[.slice none 0 0, .slice none 0 0] 27)) Gv3.out) Gv4.out) Gv5.out) Gv6.out) (.cells ((plainC (opsL (1 + p) 0 x y) []).lines.flatMap cellsL).toArray 41))) ?_
      case hy => (intro w hSw; go_simp; try (with_reducible rfl))
      try simp only [Act.put, List.setIfInBounds_toArray, List.set_cons_zero, List.set_cons_succ]
      refine wpAnyH_ready (rs := [15]) (by kernel_rfl) (by simp) ?_
      refine AllReadyH.cons rfl (fun K hK => ?_) AllReadyH.nil
      rw [if_pos (by rfl)]
      refine wp_store_mid 27 _ _ rfl (v1.heap.size) 0 #[.slice none 0 0, .slice (some ⟨v6.heap.size, 0, none⟩) 5 5] rfl rfl (there2 HC7.out) infoCode (by simp [Value.oneCell']) ?_
      have BL := Lib.hid (setCells_below (b := v1.heap.size) [.slice none 0 0, .slice (some ⟨v6.heap.size, 0, none⟩) 5 5] 0 _ _ (ext_alloc (ext_trans (ext_trans (ext_trans (ext_trans (ext_alloc (ext_trans (ext_drew (Below.refl wa.heap.size wa)) Gv1.out) (.cells #[.slice none 0 0, .slice none 0 0] 27)) Gv3.out) Gv4.out) Gv5.out) Gv6.out) (.cells ((plainC (opsL (1 + p) 0 x y) []).lines.flatMap cellsL).toArray 41)) (show wa.heap.size ≤ v1.heap.size by omega))
      refine hK.out _ _ (KEEP.out _ BL.out) (fun hHeld => ?_)
      clear hK K
      try simp only [Act.put, List.setIfInBounds_toArray, List.set_cons_zero, List.set_cons_succ]
      refine wpAnyH_done (by kernel_rfl) ?_ _
      have HLD := Lib.hid (opr_mk (s10 := .pointer (some ⟨v1.heap.size, 0, none⟩)) 0 G1.out HB.out BL.out zb rfl (show wa.heap.size ≤ v1.heap.size by omega) (store2 HC7.out _ _) ((setCells_other _ _ _ _ (show v6.heap.size ≠ v1.heap.size by omega)).trans HL7.out))
      go_wp2_with fail
      go_meet
      case rel => exact HLD.out
    refine AllReadyH.cons rfl (fun K hK => ?_) AllReadyH.nil
    go_simp
    have HC1 : Hid ((wa.drew.alloc (.cells #[.slice none 0 0, .slice none 0 0] 27)).heap[wa.heap.size]? = some (.cells #[.slice none 0 0, .slice none 0 0] 27 (0, 0))) := Lib.hid (heap_new' _ _ _ (by first | rfl | simp))
    refine hK.out _ _ (KEEP.out _ (ext_alloc (ext_drew (Below.refl wa.heap.size wa)) (.cells #[.slice none 0 0, .slice none 0 0] 27))) (fun hHeld => ?_)
    clear hK K
    try simp only [Act.put, List.setIfInBounds_toArray, List.set_cons_zero, List.set_cons_succ]
    refine wpAnyH_ready (rs := [2]) (by kernel_rfl) (by simp) ?_
    refine AllReadyH.cons rfl (fun K hK => ?_) AllReadyH.nil
    go_simp
    refine (line_any _ _ _ _ _ _ _).mono ?_; rintro e v2 ⟨rfl, gv2⟩
    have Zv2 : wa.heap.size + 1 ≤ v2.heap.size := by have := gv2.size; (try simp at this); omega
    have Gv2 := Lib.hid gv2; clear gv2
    have HC2 : Hid (v2.heap[wa.heap.size]? = some (.cells #[.slice none 0 0, .slice none 0 0] 27 (0, 0))) := Lib.hid ((Gv2.out.block _ (Array.getElem?_eq_some_iff.1 HC1.out).1).trans HC1.out)
    refine hK.out _ _ (KEEP.out _ (ext_trans (ext_alloc (ext_drew (Below.refl wa.heap.size wa)) (.cells #[.slice none 0 0, .slice none 0 0] 27)) Gv2.out)) (fun hHeld => ?_)
    clear hK K
    try simp only [Act.put, List.setIfInBounds_toArray, List.set_cons_zero, List.set_cons_succ]
    refine wpAnyH_ready (rs := [5]) (by kernel_rfl) (by simp) ?_
    refine AllReadyH.cons rfl (fun K hK => ?_) AllReadyH.nil
    go_simp
    refine (line_any _ _ _ _ _ _ _).mono ?_; rintro e v3 ⟨rfl, gv3⟩
    have Zv3 : v2.heap.size ≤ v3.heap.size := by have := gv3.size; (try simp at this); omega
    have Gv3 := Lib.hid gv3; clear gv3
    have HC3 : Hid (v3.heap[wa.heap.size]? = some (.cells #[.slice none 0 0, .slice none 0 0] 27 (0, 0))) := Lib.hid ((Gv3.out.block _ (Array.getElem?_eq_some_iff.1 HC2.out).1).trans HC2.out)
    refine hK.out _ _ (KEEP.out _ (ext_trans (ext_trans (ext_alloc (ext_drew (Below.refl wa.heap.size wa)) (.cells #[.slice none 0 0, .slice none 0 0] 27)) Gv2.out) Gv3.out)) (fun hHeld => ?_)
    clear hK K
    try simp only [Act.put, List.setIfInBounds_toArray, List.set_cons_zero, List.set_cons_succ]
    refine wpAnyH_ready (rs := [7]) (by kernel_rfl) (by simp) ?_
    refine AllReadyH.cons rfl (fun K hK => ?_) AllReadyH.nil
    go_simp
    refine (line_any _ _ _ _ _ _ _).mono ?_; rintro e v4 ⟨rfl, gv4⟩
    have Zv4 : v3.heap.size ≤ v4.heap.size := by have := gv4.size; (try simp at this); omega
    have Gv4 := Lib.hid gv4; clear gv4
    have HC4 : Hid (v4.heap[wa.heap.size]? = some (.cells #[.slice none 0 0, .slice none 0 0] 27 (0, 0))) := Lib.hid ((Gv4.out.block _ (Array.getElem?_eq_some_iff.1 HC3.out).1).trans HC3.out)
    refine hK.out _ _ (KEEP.out _ (ext_trans (ext_trans (ext_trans (ext_alloc (ext_drew (Below.refl wa.heap.size wa)) (.cells #[.slice none 0 0, .slice none 0 0] 27)) Gv2.out) Gv3.out) Gv4.out)) (fun hHeld => ?_)
    clear hK K
    try simp only [Act.put, List.setIfInBounds_toArray, List.set_cons_zero, List.set_cons_succ]
    refine wpAnyH_ready (rs := [9]) (by kernel_rfl) (by simp) ?_
    refine AllReadyH.cons rfl (fun K hK => ?_) AllReadyH.nil
    go_simp
    refine (line_any _ _ _ _ _ _ _).mono ?_; rintro e v5 ⟨rfl, gv5⟩
    have Zv5 : v4.heap.size ≤ v5.heap.size := by have := gv5.size; (try simp at this); omega
    have Gv5 := Lib.hid gv5; clear gv5
    have HC5 : Hid (v5.heap[wa.heap.size]? = some (.cells #[.slice none 0 0, .slice none 0 0] 27 (0, 0))) := Lib.hid ((Gv5.out.block _ (Array.getElem?_eq_some_iff.1 HC4.out).1).trans HC4.out)
    refine hK.out _ _ (KEEP.out _ (ext_trans (ext_trans (ext_trans (ext_trans (ext_alloc (ext_drew (Below.refl wa.heap.size wa)) (.cells #[.slice none 0 0, .slice none 0 0] 27)) Gv2.out) Gv3.out) Gv4.out) Gv5.out)) (fun hHeld => ?_)
    clear hK K
    try simp only [Act.put, List.setIfInBounds_toArray, List.set_cons_zero, List.set_cons_succ]
    refine wpAnyH_ready (rs := [11]) (by kernel_rfl) (by simp) ?_
    refine AllReadyH.cons rfl (fun K hK => ?_) AllReadyH.nil
    go_simp
    refine (line_any _ _ _ _ _ _ _).mono ?_; rintro e v6 ⟨rfl, gv6⟩
    have Zv6 : v5.heap.size ≤ v6.heap.size := by have := gv6.size; (try simp at this); omega
    have Gv6 := Lib.hid gv6; clear gv6
    have HC6 : Hid (v6.heap[wa.heap.size]? = some (.cells #[.slice none 0 0, .slice none 0 0] 27 (0, 0))) := Lib.hid ((Gv6.out.block _ (Array.getElem?_eq_some_iff.1 HC5.out).1).trans HC5.out)
    refine hK.out _ _ (KEEP.out _ (ext_trans (ext_trans (ext_trans (ext_trans (ext_trans (ext_alloc (ext_drew (Below.refl wa.heap.size wa)) (.cells #[.slice none 0 0, .slice none 0 0] 27)) Gv2.out) Gv3.out) Gv4.out) Gv5.out) Gv6.out)) (fun hHeld => ?_)
    clear hK K
    try simp only [Act.put, List.setIfInBounds_toArray, List.set_cons_zero, List.set_cons_succ]
    refine wpAnyH_ready (rs := [12]) (by kernel_rfl) (by simp) ?_
    refine AllReadyH.cons rfl (fun K hK => ?_) AllReadyH.nil
    go_simp
    have HC7 : Hid ((v6.alloc (.cells ((plainC (opsL (1 + p) 0 x y) []).lines.flatMap cellsL).toArray 41)).heap[wa.heap.size]? = some (.cells #[.slice none 0 0, .slice none 0 0] 27 (0, 0))) := Lib.hid ((Lib.alloc_old _ _ _ (Array.getElem?_eq_some_iff.1 HC6.out).1).trans HC6.out)
    have HL7 : Hid ((v6.alloc (.cells ((plainC (opsL (1 + p) 0 x y) []).lines.flatMap cellsL).toArray 41)).heap[v6.heap.size]? = some (.cells ((plainC (opsL (1 + p) 0 x y) []).lines.flatMap cellsL).toArray 41 (0, 0))) := Lib.hid (heap_new' _ _ _ (by first | rfl | simp))
    refine hK.out _ _ (KEEP.out _ (ext_alloc (ext_trans (ext_trans (ext_trans (ext_trans (ext_trans (ext_alloc (ext_drew (Below.refl wa.heap.size wa)) (.cells #[.slice none 0 0, .slice none 0 0] 27)) Gv2.out) Gv3.out) Gv4.out) Gv5.out) Gv6.out) (.cells ((plainC (opsL (1 + p) 0 x y) []).lines.flatMap cellsL).toArray 41))) (fun hHeld => ?_)
    clear hK K
    try simp only [Act.put, List.setIfInBounds_toArray, List.set_cons_zero, List.set_cons_succ]
    refine wpAnyH_take (i := 13) (v := ?_) rfl (by kernel_rfl) (by kernel_rfl) (by kernel_rfl) (fun _ _ _ h => h) (Or.inl ⟨by rfl, ?hy⟩) (KEEP.out _ (ext_alloc (ext_trans (ext_trans (ext_trans (ext_trans (ext_trans (ext_alloc (ext_drew (Below.refl wa.heap.size wa)) (.cells #[.slice none 0 0, .slice none 0 0] 27)) Gv2.out) Gv3.out) Gv4.out) Gv5.out) Gv6.out) (.cells ((plainC (opsL (1 + p) 0 x y) []).lines.flatMap cellsL).toArray 41))) ?_
    case hy => (intro w hSw; go_simp; try (with_reducible rfl))
    try simp only [Act.put, List.setIfInBounds_toArray, List.set_cons_zero, List.set_cons_succ]
    refine wpAnyH_ready (rs := [15]) (by kernel_rfl) (by simp) ?_
    refine AllReadyH.cons rfl (fun K hK => ?_) AllReadyH.nil
    rw [if_pos (by rfl)]
    refine wp_store_mid 27 _ _ rfl (wa.heap.size) 0 #[.slice none 0 0, .slice (some ⟨v6.heap.size, 0, none⟩) 5 5] rfl rfl (there2 HC7.out) infoCode (by simp [Value.oneCell']) ?_
    have BL := Lib.hid (setCells_below (b := wa.heap.size) [.slice none 0 0, .slice (some ⟨v6.heap.size, 0, none⟩) 5 5] 0 _ _ (ext_alloc (ext_trans (ext_trans (ext_trans (ext_trans (ext_trans (ext_alloc (ext_drew (Below.refl wa.heap.size wa)) (.cells #[.slice none 0 0, .slice none 0 0] 27)) Gv2.out) Gv3.out) Gv4.out) Gv5.out) Gv6.out) (.cells ((plainC (opsL (1 + p) 0 x y) []).lines.flatMap cellsL).toArray 41)) (show wa.heap.size ≤ wa.heap.size by omega))
    refine hK.out _ _ (KEEP.out _ BL.out) (fun hHeld => ?_)
    clear hK K
    try simp only [Act.put, List.setIfInBounds_toArray, List.set_cons_zero, List.set_cons_succ]
    refine wpAnyH_done (by kernel_rfl) ?_ _
    have HLD := Lib.hid (opr_mk (s10 := .pointer (some ⟨wa.heap.size, 0, none⟩)) 0 G1.out HB.out BL.out zb rfl (show wa.heap.size ≤ wa.heap.size by omega) (store2 HC7.out _ _) ((setCells_other _ _ _ _ (show v6.heap.size ≠ wa.heap.size by omega)).trans HL7.out))
    go_wp2_with fail
    go_meet
    case rel => exact HLD.out
  case rest =>
    obtain ⟨C, rfl, hb, g, hCb, l, hC, hL⟩ := hcut
    have GB := Lib.hid g
    have HC := Lib.hid hC
    have HL := Lib.hid hL
    have zC : C < wc.heap.size := (Array.getElem?_eq_some_iff.1 hC).1
    have zl : l < wc.heap.size := (Array.getElem?_eq_some_iff.1 hL).1
    obtain ⟨c0, c1, c2, c3, c4, c5⟩ := cells6 hb
    obtain ⟨d0, d1⟩ := two_cells hC
    have zB : w0.heap.size < wc.heap.size := (Array.getElem?_eq_some_iff.1 hb).1
    clear KEEP HB G1 zb hb g hC hL hCb c1 c2 c3 c4 c5 P1
    rcases (show p = 12 ∨ p = 13 ∨ p = 14 by omega) with rfl | rfl | rfl
    · have c0' : wc.cell? ⟨w0.heap.size, 0, none⟩ = some (.int .i64 13) := c0
      clear c0
      have HL1 : Hid (wc.heap[l]? = some (.cells ((plainC (opsL 13 0 x y) []).lines.flatMap cellsL).toArray 41 (0, 0))) := HL
      clear HL
      have HR : Hid (∀ (v : Value) w', CdAt w' v (plainC (opsL 13 0 x y) []) → Calls Tryz.prog 14 #[v, .slice none 0 0, .int .i64 9] w' fun e w'' => (∃ po co, e = .returned (.agg #[.int .i64 1, .int .i64 (oneV 18 x), .slice po 0 co, .int .i64 5]) ∧ RnAt w'' (.agg #[.int .i64 1, .int .i64 (oneV 18 x), .slice po 0 co, .int .i64 5]) ⟨1, (oneV 18 x), [], 5⟩) ∧ Below w'.heap.size w' w'') := HRN
      clear HRN
      go_wp2_with fail
      refine (one_any _ _ _).mono ?_; rintro e w3 ⟨rfl, g3⟩
      have G3 : Hid (Below wc.heap.size wc w3) := Lib.hid g3
      clear g3
      have HL3 := Lib.hid ((G3.out.block l zl).trans HL1.out)
      have e0 := (G3.out.cell (p := ⟨C, 0, none⟩) zC).trans d0
      have e1 := (G3.out.cell (p := ⟨C, 1, none⟩) zC).trans d1
      clear d0 d1 c0'
      go_wp2_with fail
      refine (HR.out _ _ (cd_of (c := (plainC (opsL 13 0 x y) [])) (ars_none _) (lns_block (L := (plainC (opsL 13 0 x y) []).lines) HL3.out (by show 5 ≤ 1000; decide)) (by show 0 ≤ 1000; decide) (by show 5 ≤ 1000; decide))).mono ?_; rintro e wr ⟨⟨po, co, rfl, hr⟩, gr⟩
      have HS := Lib.hid (rsame_any _ _ _ _ _ hr (rn_lit _ 1 (oneV 18 x) 5) (by show 0 ≤ 1000000; decide) (by show 0 ≤ 1000000; decide))
      rw [decide_eq_true (rfl : (⟨1, (oneV 18 x), [], 5⟩ : Rn) = ⟨1, (oneV 18 x), [], 5⟩)] at HS
      have GR := Lib.hid (ext_trans (ext_trans GB.out G3.out) gr)
      clear hr gr HR HL3 HL1 G3
      go_wp2_with fail
      refine HS.out.mono ?_; rintro e w9 ⟨rfl, g9⟩
      have GZ := Lib.hid (ext_trans GR.out g9)
      clear g9 HS GR
      go_wp2_with fail
      go_ret
      exact ⟨rfl, GZ.out⟩
    · have c0' : wc.cell? ⟨w0.heap.size, 0, none⟩ = some (.int .i64 14) := c0
      clear c0
      have HL1 : Hid (wc.heap[l]? = some (.cells ((plainC (opsL 14 0 x y) []).lines.flatMap cellsL).toArray 41 (0, 0))) := HL
      clear HL
      have HR : Hid (∀ (v : Value) w', CdAt w' v (plainC (opsL 14 0 x y) []) → Calls Tryz.prog 14 #[v, .slice none 0 0, .int .i64 9] w' fun e w'' => (∃ po co, e = .returned (.agg #[.int .i64 1, .int .i64 (twoV 16 x 0), .slice po 0 co, .int .i64 5]) ∧ RnAt w'' (.agg #[.int .i64 1, .int .i64 (twoV 16 x 0), .slice po 0 co, .int .i64 5]) ⟨1, (twoV 16 x 0), [], 5⟩) ∧ Below w'.heap.size w' w'') := HRN
      clear HRN
      go_wp2_with fail
      refine (two_any _ _ _ _).mono ?_; rintro e w3 ⟨rfl, g3⟩
      have G3 : Hid (Below wc.heap.size wc w3) := Lib.hid g3
      clear g3
      have HL3 := Lib.hid ((G3.out.block l zl).trans HL1.out)
      have e0 := (G3.out.cell (p := ⟨C, 0, none⟩) zC).trans d0
      have e1 := (G3.out.cell (p := ⟨C, 1, none⟩) zC).trans d1
      clear d0 d1 c0'
      go_wp2_with fail
      refine (HR.out _ _ (cd_of (c := (plainC (opsL 14 0 x y) [])) (ars_none _) (lns_block (L := (plainC (opsL 14 0 x y) []).lines) HL3.out (by show 5 ≤ 1000; decide)) (by show 0 ≤ 1000; decide) (by show 5 ≤ 1000; decide))).mono ?_; rintro e wr ⟨⟨po, co, rfl, hr⟩, gr⟩
      have HS := Lib.hid (rsame_any _ _ _ _ _ hr (rn_lit _ 1 (twoV 16 x 0) 5) (by show 0 ≤ 1000000; decide) (by show 0 ≤ 1000000; decide))
      rw [decide_eq_true (rfl : (⟨1, (twoV 16 x 0), [], 5⟩ : Rn) = ⟨1, (twoV 16 x 0), [], 5⟩)] at HS
      have GR := Lib.hid (ext_trans (ext_trans GB.out G3.out) gr)
      clear hr gr HR HL3 HL1 G3
      go_wp2_with fail
      refine HS.out.mono ?_; rintro e w9 ⟨rfl, g9⟩
      have GZ := Lib.hid (ext_trans GR.out g9)
      clear g9 HS GR
      go_wp2_with fail
      go_ret
      exact ⟨rfl, GZ.out⟩
    · have c0' : wc.cell? ⟨w0.heap.size, 0, none⟩ = some (.int .i64 15) := c0
      clear c0
      have HL1 : Hid (wc.heap[l]? = some (.cells ((plainC (opsL 15 0 x y) []).lines.flatMap cellsL).toArray 41 (0, 0))) := HL
      clear HL
      have HR : Hid (∀ (v : Value) w', CdAt w' v (plainC (opsL 15 0 x y) []) → Calls Tryz.prog 14 #[v, .slice none 0 0, .int .i64 9] w' fun e w'' => (∃ po co, e = .returned (.agg #[.int .i64 1, .int .i64 x, .slice po 0 co, .int .i64 5]) ∧ RnAt w'' (.agg #[.int .i64 1, .int .i64 x, .slice po 0 co, .int .i64 5]) ⟨1, x, [], 5⟩) ∧ Below w'.heap.size w' w'') := HRN
      clear HRN
      go_wp2_with fail
      have G3 := Lib.hid (Below.refl wc.heap.size wc)
      have HL3 := HL1
      refine (HR.out _ _ (cd_of (c := (plainC (opsL 15 0 x y) [])) (ars_none _) (lns_block (L := (plainC (opsL 15 0 x y) []).lines) HL3.out (by show 5 ≤ 1000; decide)) (by show 0 ≤ 1000; decide) (by show 5 ≤ 1000; decide))).mono ?_; rintro e wr ⟨⟨po, co, rfl, hr⟩, gr⟩
      have HS := Lib.hid (rsame_any _ _ _ _ _ hr (rn_lit _ 1 x 5) (by show 0 ≤ 1000000; decide) (by show 0 ≤ 1000000; decide))
      rw [decide_eq_true (rfl : (⟨1, x, [], 5⟩ : Rn) = ⟨1, x, [], 5⟩)] at HS
      have GR := Lib.hid (ext_trans (ext_trans GB.out G3.out) gr)
      clear hr gr HR HL3 HL1 G3
      go_wp2_with fail
      refine HS.out.mono ?_; rintro e w9 ⟨rfl, g9⟩
      have GZ := Lib.hid (ext_trans GR.out g9)
      clear g9 HS GR
      go_wp2_with fail
      go_ret
      exact ⟨rfl, GZ.out⟩
theorem ops_walk (c x y : Int) (w : World) (hc : I64 c) (hx : I64 x) (hy : I64 y) (hv : Env w) : Calls Tryz.prog 8 #[.int .i64 c, .int .i64 x, .int .i64 y] w fun e w' => e = .returned (.bool true) ∧ Below w.heap.size w w' := by
  obtain ⟨k, hk, hk2⟩ := pick_nat9 c 15 (by decide)
  by_cases h : k < 12
  · exact ops_low c x y k w hc hx hy hv hk (by omega)
  · exact ops_high c x y k w hc hx hy hv hk (by omega)
end Go.Proofs.YtjimeengkfjihaaGreatDoor
