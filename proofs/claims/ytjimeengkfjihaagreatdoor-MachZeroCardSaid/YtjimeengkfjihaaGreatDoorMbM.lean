/- What the code of MachZero does, in plain words. -/
import Derived.Test.YtjimeengkfjihaaGreatDoorRows
import Derived.WalkKit
import Derived.ProofKit
import Derived.KernelRfl
import Derived.Test.YtjimeengkfjihaaGreatDoorMbP
import Derived.OpenShut
import Derived.WalkLawsBesides
import Derived.WalkSpells
import Derived.Outline
import Derived.Handy
import Derived.Lib.Hide
import Derived.Lib.OthersKept
import Derived.Carry
import Derived.IntWalk
import Derived.Deep.RegionHeldLaw
import Derived.Deep.MidRow
import Derived.Test.YtjimeengkfjihaaGreatDoorMbD
namespace Go.Proofs.YtjimeengkfjihaaGreatDoor
open Go.ChangeShapes Go.WideShapes Go.ChangeAt Go.RowKit
set_option linter.unusedVariables false
set_option linter.unusedSimpArgs false
set_option maxRecDepth 100000
def zeI (q : Nat) (n : Int) : In := match q with
  | 0 => ⟨16, 0, 0, 0, n, []⟩
  | 1 => ⟨15, 0, 5, 0, 0, []⟩
  | 2 => ⟨1, 0, 5, 5, 0, []⟩
  | 3 => ⟨19, 0, 2, 0, -8, []⟩
  | 4 => ⟨18, 0, 5, 0, 1, []⟩
  | 5 => ⟨17, 0, 0, 0, 0, [97]⟩
  | _ => ⟨12, 0, 0, 5, 0, []⟩
def zeA : List Ar := [⟨[97], 1⟩]
def zeL (x : In) (n : Int) : List In := [⟨16, 5, 0, 0, n, []⟩, ⟨20, 0, 2, 5, -8, []⟩, x, ⟨15, 10, 0, 0, 0, []⟩, ⟨16, 17, 0, 0, 3, []⟩, ⟨28, 0, 0, 0, 0, []⟩]
theorem ze_right (q : Nat) (n : Int) : rightB (zeI q n) = true ∧ ((zeI q n).name ≠ [] → (zeI q n).op = 17 ∧ hasArr zeA (zeI q n).name = true) := by
  unfold zeI
  split
  · exact ⟨right_li (by decide) _, fun h => absurd rfl h⟩
  · exact ⟨by kernel_rfl, fun h => absurd rfl h⟩
  · exact ⟨by kernel_rfl, fun h => absurd rfl h⟩
  · exact ⟨by kernel_rfl, fun h => absurd rfl h⟩
  · exact ⟨by kernel_rfl, fun h => absurd rfl h⟩
  · exact ⟨by kernel_rfl, fun _ => ⟨rfl, by decide⟩⟩
  · exact ⟨by kernel_rfl, fun h => absurd rfl h⟩
theorem ze_ok (q : Nat) (n : Int) : (faultL (plainC (zeL (zeI q n) n) zeA)).1 = 0 := by
  refine plain_ok (by decide) (by decide) (by simp [zeL]) (fun x hx => ?_)
  simp [zeL] at hx
  rcases hx with rfl | rfl | rfl | rfl | rfl | rfl
  · exact ⟨right_li (by decide) _, fun h => absurd rfl h⟩
  · exact ⟨by kernel_rfl, fun h => absurd rfl h⟩
  · exact ze_right q n
  · exact ⟨by kernel_rfl, fun h => absurd rfl h⟩
  · exact ⟨right_li (by decide) _, fun h => absurd rfl h⟩
  · exact ⟨by kernel_rfl, fun h => absurd rfl h⟩
set_option maxHeartbeats 2000000 in
theorem ze_run (q : Nat) (n : Int) : runL (plainC (zeL (zeI q n) n) zeA) [] 9 = ⟨1, 0, [], 6⟩ := by
  obtain ⟨T, e⟩ := plain_run (ze_ok q n) 9 rfl (show wordsL zeA = 1 from rfl) (show (9 : Int).toNat = 9 from rfl)
  rw [e]
  have hF : begL (plainC (zeL (zeI q n) n) zeA) [97] = some 65536 := rfl
  have hw : wrap64 (1073741824 + -8) = 1073741816 := wrap_in (v := 1073741824 + -8) (by omega)
  have hw1 : wrap64 1073741816 = 1073741816 := wrap_in (by omega)
  have hw2 : ¬ wordN 1 1073741816 < 0 := by unfold wordN; rw [if_neg (by omega), if_neg (by omega), if_pos (by omega)]; omega
  have m1 : ∀ x a b, madeI 16 x a b = x := fun _ _ _ => rfl
  have m2 : ∀ x a b, madeI 15 x a b = a := fun _ _ _ => rfl
  obtain ⟨f, hf⟩ : ∃ f, madeI = f := ⟨_, rfl⟩
  rw [hf] at m1 m2
  generalize begL (plainC (zeL (zeI q n) n) zeA) = F at *
  clear e
  unfold zeI
  split
  all_goals
    simp only [zeL, goM, roundM, stepM, hf]
    simp [zeroM, setR, getR, moveM, callM, putN, m1, m2, mac0, Mac.rn, hF, hw, hw1, hw2]
theorem ze_n64 {q : Nat} {n : Int} (hn : I64 n) : ∀ x ∈ zeL (zeI q n) n, I64 x.n := fun x hx => by
  have h8 : I64 (-8) := ⟨by decide, by decide⟩
  have h0 : I64 0 := ⟨by decide, by decide⟩
  have h1 : I64 1 := ⟨by decide, by decide⟩
  have h3 : I64 3 := ⟨by decide, by decide⟩
  simp [zeL] at hx
  rcases hx with rfl | rfl | rfl | rfl | rfl | rfl
  · exact hn
  · exact h8
  · unfold zeI; split <;> first | exact hn | exact h0 | exact h8 | exact h1
  · exact h0
  · exact h3
  · exact h0
theorem ze_fit {q : Nat} {n : Int} : CdFit (plainC (zeL (zeI q n) n) zeA) := plain_fit (fun x hx => by
  simp [zeL] at hx
  rcases hx with rfl | rfl | rfl | rfl | rfl | rfl <;> first | (simp; done) | (unfold zeI; split <;> simp)) (by decide)
end Go.Proofs.YtjimeengkfjihaaGreatDoor
/- The walk of MachZero. -/
namespace Go.Proofs.YtjimeengkfjihaaGreatDoor
open Go.ChangeShapes Go.WideShapes Go.ChangeAt Go.RowKit
set_option linter.unusedVariables false
set_option linter.unusedSimpArgs false
theorem cells6 {w : World} {b : Nat} {v0 v1 v2 v3 v4 v5 : Value} {t : TypeId} (h : w.heap[b]? = some (.cells #[v0, v1, v2, v3, v4, v5] t (0, 0))) : w.cell? ⟨b, 0, none⟩ = some v0 ∧ w.cell? ⟨b, 1, none⟩ = some v1 ∧ w.cell? ⟨b, 2, none⟩ = some v2 ∧ w.cell? ⟨b, 3, none⟩ = some v3 ∧ w.cell? ⟨b, 4, none⟩ = some v4 ∧ w.cell? ⟨b, 5, none⟩ = some v5 := by
  refine ⟨?_, ?_, ?_, ?_, ?_, ?_⟩ <;> simp [World.cell?, h]
theorem store2 {wr : World} {b : Nat} {v0 v1 : Value} {t : TypeId} (h : wr.heap[b]? = some (.cells #[v0, v1] t (0, 0))) (x y : Value) : (wr.setCells b 0 [x, y]).heap[b]? = some (.cells #[x, y] t (0, 0)) := heap_setCell_same _ _ 1 _ _ y (heap_setCell_same _ _ 0 _ _ x h)
theorem there2 {w : World} {C : Nat} {t : TypeId} (h : w.heap[C]? = some (.cells #[.slice none 0 0, .slice none 0 0] t (0, 0))) : w.there C 0 2 := by
  intro j hj
  rw [Nat.zero_add]
  refine ⟨?_, by simp [World.frozen?, h]⟩
  rw [cell_row h, Array.getElem?_eq_getElem (show j < (#[Value.slice none 0 0, .slice none 0 0] : Array Value).size from hj)]
  rfl
theorem infoCode : (Tryz.prog.info? 27).map (·.size) = some 2 := by kernel_rfl
def InZ (w : World) (b : Nat) (x : In) : Prop := w.heap[b]? = some (.cells #[.int .i64 x.op, .int .i64 x.d, .int .i64 x.a, .int .i64 x.b, .int .i64 x.n, .string (mk x.name)] 39 (0, 0))
theorem cap {P : Program} {md : Region.Mode} {ops : Array Oper} {Q : Exit → Act → World → Prop} {S : World → Prop} {n : Nat} {l : Array Bool} {a : Act} {w : World} (h : ∀ F : Nat → Array Bool → Act → World → Prop, F = wpAnyH P md ops Q S → F n l a w) : wpAnyH P md ops Q S n l a w := h _ rfl
theorem fapp {F G : Nat → Array Bool → Act → World → Prop} (h : F = G) {n n' : Nat} {l l' : Array Bool} {a a' : Act} {w : World} (hn : n' = n) (hl : l' = l) (ha : a' = a) (H : F n l a w) : G n' l' a' w := by
  subst h; subst hn; subst hl; subst ha; exact H
def ZfR (w : World) (x : In) (c : Int) (s7 : Value) (wx : World) : Prop := ∃ C, s7 = .pointer (some ⟨C, 0, none⟩) ∧ Below w.heap.size w wx ∧ ∃ l A, wx.heap[C]? = some (.cells #[.slice (some ⟨A, 0, none⟩) 1 1, .slice (some ⟨l, 0, none⟩) 6 6] 27 (0, 0)) ∧ wx.heap[l]? = some (.cells ((plainC (zeL x c) zeA).lines.flatMap cellsL).toArray 41 (0, 0)) ∧ wx.heap[A]? = some (.cells (zeA.flatMap cellsA).toArray 37 (0, 0))
def ZeR (w : World) (x : In) (s6 : Value) (wx : World) : Prop := ∃ b, s6 = .pointer (some ⟨b, 0, none⟩) ∧ InZ wx b x ∧ Below w.heap.size w wx
set_option maxHeartbeats 16000000 in
set_option maxRecDepth 100000 in
theorem zero_core (c y : Int) (q : Nat) (w : World) (hc : I64 c) (hy : I64 y) (hv : Env w) (hq : pickN y 7 = (q : Int)) (hq2 : q < 7) : Calls Tryz.prog 10 #[.int .i64 c, .int .i64 y] w fun e w' => e = .returned (.bool true) ∧ Below w.heap.size w w' := by
  have HAW := Lib.hid (awake9_any w hv)
  have P1 : Hid (∀ w, Calls Tryz.prog 13 #[.int .i64 y, .int .i64 7] w fun e w' => e = .returned (.int .i64 (q : Int)) ∧ w = w') :=
    Lib.hid (fun w => (pick9_any y 7 w hy (by decide)).mono fun e w' h => ⟨by rw [← hq]; exact h.1, h.2⟩)
  have HRN : Hid (∀ (v : Value) w', CdAt w' v (plainC (zeL (zeI q c) c) zeA) → Calls Tryz.prog 14 #[v, .slice none 0 0, .int .i64 9] w' fun e w'' => (∃ po co, e = .returned (.agg #[.int .i64 1, .int .i64 0, .slice po 0 co, .int .i64 6]) ∧ RnAt w'' (.agg #[.int .i64 1, .int .i64 0, .slice po 0 co, .int .i64 6]) ⟨1, 0, [], 6⟩) ∧ Below w'.heap.size w' w'') :=
    Lib.hid (fun v w' h => run_nil v _ w' h ze_fit (by show 1 ≤ 1000; decide) (plain_n64 (ze_n64 hc)) 9 (by decide) _ (ze_run q c))
  obtain ⟨x, hx⟩ : ∃ x, zeI q c = x := ⟨_, rfl⟩
  rw [hx] at HRN
  have HX := Lib.hid hx
  clear hv hc hy hq hx
  go_enter Tryz.func10, Tryz.ntmps10
  go_wp2_with fail
  refine HAW.out.mono ?_; rintro e w0 ⟨rfl, g0⟩
  have GA := Lib.hid g0
  have z0 := g0.size
  clear g0 HAW
  go_upto_region 2 with (fail)
  go_cut [6] (fun s6 wx => ZeR w x s6 wx)
  case first =>
    rcases (show q = 0 ∨ q = 1 ∨ q = 2 ∨ q = 3 ∨ q = 4 ∨ q = 5 ∨ q = 6 by omega) with rfl | rfl | rfl | rfl | rfl | rfl | rfl
    all_goals
      have hx2 := HX.out
      unfold zeI at hx2
      subst hx2
      go_wp2_with (go_at_call 13; (with_reducible refine (P1.out _).mono ?_); rintro e wk ⟨rfl, rfl⟩)
      go_meet
      case rel => exact ⟨_, rfl, heap_new' _ _ _ (by simp), ext_alloc (ext_alloc GA.out _) _⟩
  case rest =>
    obtain ⟨b, rfl, hb, g⟩ := hcut
    have HB := Lib.hid hb
    have G1 := Lib.hid g
    have zb : b < wc.heap.size := (Array.getElem?_eq_some_iff.1 hb).1
    obtain ⟨op, xd, xa, xb, xn, name⟩ := x
    have KEEP : Hid (∀ w', Below wc.heap.size wc w' → ((fun w' => w'.cell? ⟨b, 0, none⟩ = some (.int .i64 op) ∧ w'.cell? ⟨b, 1, none⟩ = some (.int .i64 xd) ∧ w'.cell? ⟨b, 2, none⟩ = some (.int .i64 xa) ∧ w'.cell? ⟨b, 3, none⟩ = some (.int .i64 xb) ∧ w'.cell? ⟨b, 4, none⟩ = some (.int .i64 xn) ∧ w'.cell? ⟨b, 5, none⟩ = some (.string (mk name))) : World → Prop) w') := Lib.hid (fun w' g => cells6 ((g.block _ zb).trans HB.out))
    clear hb g GA P1
    go_upto_region 3 with (fail)
    go_cut [7] (fun s7 wx => ZfR w ⟨op, xd, xa, xb, xn, name⟩ c s7 wx)
    case first =>
      refine wp_region_held_drew (S := fun w' => w'.cell? ⟨b, 0, none⟩ = some (.int .i64 op) ∧ w'.cell? ⟨b, 1, none⟩ = some (.int .i64 xd) ∧ w'.cell? ⟨b, 2, none⟩ = some (.int .i64 xa) ∧ w'.cell? ⟨b, 3, none⟩ = some (.int .i64 xb) ∧ w'.cell? ⟨b, 4, none⟩ = some (.int .i64 xn) ∧ w'.cell? ⟨b, 5, none⟩ = some (.string (mk name))) (by kernel_rfl) (KEEP.out _ (ext_drew (Below.refl _ _))) (fun hHeld => ?_)
      refine wpAnyH_take (i := 0) (oi := { dst := some 22, op := _, type := _, pos := _, after := _, guard := _ }) (v := ?_) rfl (by kernel_rfl) (by kernel_rfl) (by kernel_rfl) (fun _ _ _ h => h) (Or.inl ⟨by rfl, ?hy⟩) hHeld ?_
      case hy => (intro w hSw; (try dsimp only at hSw); go_simp; try (with_reducible rfl))
      try simp only [Act.put, List.setIfInBounds_toArray, List.set_cons_zero, List.set_cons_succ]
      refine wpAnyH_take (i := 2) (oi := { dst := some 24, op := _, type := _, pos := _, after := _, guard := _ }) (v := ?_) rfl (by kernel_rfl) (by kernel_rfl) (by kernel_rfl) (fun _ _ _ h => h) (Or.inl ⟨by rfl, ?hy⟩) hHeld ?_
      case hy => (intro w hSw; (try dsimp only at hSw); go_simp; try (with_reducible rfl))
      try simp only [Act.put, List.setIfInBounds_toArray, List.set_cons_zero, List.set_cons_succ]
      refine wpAnyH_take (i := 3) (oi := { dst := some 25, op := _, type := _, pos := _, after := _, guard := _ }) (v := ?_) rfl (by kernel_rfl) (by kernel_rfl) (by kernel_rfl) (fun _ _ _ h => h) (Or.inl ⟨by rfl, ?hy⟩) hHeld ?_
      case hy => (intro w hSw; (try dsimp only at hSw); go_simp; try (with_reducible rfl))
      try simp only [Act.put, List.setIfInBounds_toArray, List.set_cons_zero, List.set_cons_succ]
      refine wpAnyH_take (i := 5) (oi := { dst := some 27, op := _, type := _, pos := _, after := _, guard := _ }) (v := ?_) rfl (by kernel_rfl) (by kernel_rfl) (by kernel_rfl) (fun _ _ _ h => h) (Or.inl ⟨by rfl, ?hy⟩) hHeld ?_
      case hy => (intro w hSw; (try dsimp only at hSw); go_simp; try (with_reducible rfl))
      try simp only [Act.put, List.setIfInBounds_toArray, List.set_cons_zero, List.set_cons_succ]
      refine wpAnyH_take (i := 7) (oi := { dst := some 29, op := _, type := _, pos := _, after := _, guard := _ }) (v := ?_) rfl (by kernel_rfl) (by kernel_rfl) (by kernel_rfl) (fun _ _ _ h => h) (Or.inl ⟨by rfl, ?hy⟩) hHeld ?_
      case hy => (intro w hSw; (try dsimp only at hSw); go_simp; try (with_reducible rfl))
      try simp only [Act.put, List.setIfInBounds_toArray, List.set_cons_zero, List.set_cons_succ]
      refine wpAnyH_take (i := 9) (oi := { dst := some 31, op := _, type := _, pos := _, after := _, guard := _ }) (v := ?_) rfl (by kernel_rfl) (by kernel_rfl) (by kernel_rfl) (fun _ _ _ h => h) (Or.inl ⟨by rfl, ?hy⟩) hHeld ?_
      case hy => (intro w hSw; (try dsimp only at hSw); go_simp; try (with_reducible rfl))
      try simp only [Act.put, List.setIfInBounds_toArray, List.set_cons_zero, List.set_cons_succ]
      refine wpAnyH_take (i := 11) (oi := { dst := some 33, op := _, type := _, pos := _, after := _, guard := _ }) (v := ?_) rfl (by kernel_rfl) (by kernel_rfl) (by kernel_rfl) (fun _ _ _ h => h) (Or.inl ⟨by rfl, ?hy⟩) hHeld ?_
      case hy => (intro w hSw; (try dsimp only at hSw); go_simp; try (with_reducible rfl))
      try simp only [Act.put, List.setIfInBounds_toArray, List.set_cons_zero, List.set_cons_succ]
      refine wpAnyH_take (i := 13) (oi := { dst := some 35, op := _, type := _, pos := _, after := _, guard := _ }) (v := ?_) rfl (by kernel_rfl) (by kernel_rfl) (by kernel_rfl) (fun _ _ _ h => h) (Or.inl ⟨by rfl, ?hy⟩) hHeld ?_
      case hy => (intro w hSw; (try dsimp only at hSw); go_simp; try (with_reducible rfl))
      try simp only [Act.put, List.setIfInBounds_toArray, List.set_cons_zero, List.set_cons_succ]
      refine cap (fun F hF => ?_)
      have HFIN : ∀ (wx : World) (A C L : Nat) (hb : Below wc.heap.size wc wx) (hA : wx.heap[A]? = some (.cells (zeA.flatMap cellsA).toArray 37 (0, 0))) (hC : wx.heap[C]? = some (.cells #[.slice none 0 0, .slice none 0 0] 27 (0, 0))) (hw : wc.heap.size ≤ C) (hL : wx.heap[L]? = some (.cells ((plainC (zeL ⟨op, xd, xa, xb, xn, name⟩ c) zeA).lines.flatMap cellsL).toArray 41 (0, 0))) (hca : A ≠ C) (hcl : L ≠ C), F 1 #[true, true, true, true, true, true, true, true, true, true, true, true, true, true, true, true, true, true, false] ⟨#[.int .i64 c, .int .i64 y, undef, undef, .bool false, .bool true, .pointer (some ⟨b, 0, none⟩), .pointer (some ⟨C, 0, none⟩), u8, u9, u10, u11, u12, u13, u14, u15, u16, u17, u18, u19, u20, u21, .agg #[.string ⟨#[97]⟩, .int .i64 1], .slice (some ⟨A, 0, none⟩) 1 1, .int .i64 c, .agg #[.int .i64 16, .int .i64 5, .int .i64 0, .int .i64 0, .int .i64 c, .string ⟨#[]⟩], .agg #[.string ⟨#[]⟩, .int .i64 16, .int .i64 5, .int .i64 0, .int .i64 0, .int .i64 c, .string ⟨#[]⟩], .agg #[.int .i64 20, .int .i64 0, .int .i64 2, .int .i64 5, .int .i64 (-8), .string ⟨#[]⟩], .agg #[.string ⟨#[]⟩, .int .i64 20, .int .i64 0, .int .i64 2, .int .i64 5, .int .i64 (-8), .string ⟨#[]⟩], .agg #[.int .i64 op, .int .i64 xd, .int .i64 xa, .int .i64 xb, .int .i64 xn, .string (mk name)], .agg #[.string ⟨#[]⟩, .int .i64 op, .int .i64 xd, .int .i64 xa, .int .i64 xb, .int .i64 xn, .string (mk name)], .agg #[.int .i64 15, .int .i64 10, .int .i64 0, .int .i64 0, .int .i64 0, .string ⟨#[]⟩], .agg #[.string ⟨#[]⟩, .int .i64 15, .int .i64 10, .int .i64 0, .int .i64 0, .int .i64 0, .string ⟨#[]⟩], .agg #[.int .i64 16, .int .i64 17, .int .i64 0, .int .i64 0, .int .i64 3, .string ⟨#[]⟩], .agg #[.string ⟨#[]⟩, .int .i64 16, .int .i64 17, .int .i64 0, .int .i64 0, .int .i64 3, .string ⟨#[]⟩], .agg #[.int .i64 28, .int .i64 0, .int .i64 0, .int .i64 0, .int .i64 0, .string ⟨#[]⟩], .agg #[.string ⟨#[]⟩, .int .i64 28, .int .i64 0, .int .i64 0, .int .i64 0, .int .i64 0, .string ⟨#[]⟩], .slice (some ⟨L, 0, none⟩) 6 6, .agg #[.slice (some ⟨A, 0, none⟩) 1 1, .slice (some ⟨L, 0, none⟩) 6 6], u39, u40, u41, u42, u43, u44, u45], []⟩ wx := by
        intro wx A C L hb hA hC hw hL hca hcl
        rw [hF]
        refine wpAnyH_ready (rs := [18]) (by kernel_rfl) (by simp) ?_
        refine AllReadyH.cons rfl (fun K hK => ?_) AllReadyH.nil
        rw [if_pos (by rfl)]
        refine wp_store_mid 27 _ _ rfl C 0 #[.slice (some ⟨A, 0, none⟩) 1 1, .slice (some ⟨L, 0, none⟩) 6 6] rfl rfl (there2 hC) infoCode (by simp [Value.oneCell']) ?_
        have BL := Lib.hid (setCells_below (b := C) [.slice (some ⟨A, 0, none⟩) 1 1, .slice (some ⟨L, 0, none⟩) 6 6] 0 _ _ hb hw)
        have HLD : Hid (ZfR w ⟨op, xd, xa, xb, xn, name⟩ c (.pointer (some ⟨C, 0, none⟩)) (wx.setCells C 0 [.slice (some ⟨A, 0, none⟩) 1 1, .slice (some ⟨L, 0, none⟩) 6 6])) := Lib.hid ⟨C, rfl, ext_trans G1.out BL.out, L, A, store2 hC _ _, (setCells_other _ _ _ _ hcl).trans hL, (setCells_other _ _ _ _ hca).trans hA⟩
        refine hK.out _ _ (KEEP.out _ BL.out) (fun _ => ?_)
        clear hK K
        try simp only [Act.put, List.setIfInBounds_toArray, List.set_cons_zero, List.set_cons_succ]
        refine wpAnyH_done (by kernel_rfl) ?_ _
        clear hA hC hL hca hcl BL HRN
        go_wp2_with fail
        go_meet
        case rel => exact HLD.out
      have H711 : ∀ (wx : World) (A C L : Nat) (hb : Below wc.heap.size wc wx) (hA : wx.heap[A]? = some (.cells (zeA.flatMap cellsA).toArray 37 (0, 0))) (hC : wx.heap[C]? = some (.cells #[.slice none 0 0, .slice none 0 0] 27 (0, 0))) (hw : wc.heap.size ≤ C) (hL : wx.heap[L]? = some (.cells ((plainC (zeL ⟨op, xd, xa, xb, xn, name⟩ c) zeA).lines.flatMap cellsL).toArray 41 (0, 0))) (hca : A ≠ C) (hcl : L ≠ C), F 2 #[true, true, true, true, true, true, true, true, true, true, true, true, true, true, true, true, false, true, false] ⟨#[.int .i64 c, .int .i64 y, undef, undef, .bool false, .bool true, .pointer (some ⟨b, 0, none⟩), .pointer (some ⟨C, 0, none⟩), u8, u9, u10, u11, u12, u13, u14, u15, u16, u17, u18, u19, u20, u21, .agg #[.string ⟨#[97]⟩, .int .i64 1], .slice (some ⟨A, 0, none⟩) 1 1, .int .i64 c, .agg #[.int .i64 16, .int .i64 5, .int .i64 0, .int .i64 0, .int .i64 c, .string ⟨#[]⟩], .agg #[.string ⟨#[]⟩, .int .i64 16, .int .i64 5, .int .i64 0, .int .i64 0, .int .i64 c, .string ⟨#[]⟩], .agg #[.int .i64 20, .int .i64 0, .int .i64 2, .int .i64 5, .int .i64 (-8), .string ⟨#[]⟩], .agg #[.string ⟨#[]⟩, .int .i64 20, .int .i64 0, .int .i64 2, .int .i64 5, .int .i64 (-8), .string ⟨#[]⟩], .agg #[.int .i64 op, .int .i64 xd, .int .i64 xa, .int .i64 xb, .int .i64 xn, .string (mk name)], .agg #[.string ⟨#[]⟩, .int .i64 op, .int .i64 xd, .int .i64 xa, .int .i64 xb, .int .i64 xn, .string (mk name)], .agg #[.int .i64 15, .int .i64 10, .int .i64 0, .int .i64 0, .int .i64 0, .string ⟨#[]⟩], .agg #[.string ⟨#[]⟩, .int .i64 15, .int .i64 10, .int .i64 0, .int .i64 0, .int .i64 0, .string ⟨#[]⟩], .agg #[.int .i64 16, .int .i64 17, .int .i64 0, .int .i64 0, .int .i64 3, .string ⟨#[]⟩], .agg #[.string ⟨#[]⟩, .int .i64 16, .int .i64 17, .int .i64 0, .int .i64 0, .int .i64 3, .string ⟨#[]⟩], .agg #[.int .i64 28, .int .i64 0, .int .i64 0, .int .i64 0, .int .i64 0, .string ⟨#[]⟩], .agg #[.string ⟨#[]⟩, .int .i64 28, .int .i64 0, .int .i64 0, .int .i64 0, .int .i64 0, .string ⟨#[]⟩], .slice (some ⟨L, 0, none⟩) 6 6, u38, u39, u40, u41, u42, u43, u44, u45], []⟩ wx := by
        intro wx A C L hb hA hC hw hL hca hcl
        rw [hF]
        refine wpAnyH_take (i := 16) (oi := { dst := some 38, op := _, type := _, pos := _, after := _, guard := _ }) (v := ?_) rfl (by kernel_rfl) (by kernel_rfl) (by kernel_rfl) (fun _ _ _ h => h) (Or.inl ⟨by rfl, ?hy⟩) (KEEP.out _ hb) ?_
        case hy => (intro w hSw; go_simp; try (with_reducible rfl))
        try simp only [Act.put, List.setIfInBounds_toArray, List.set_cons_zero, List.set_cons_succ]
        exact fapp hF rfl (by kernel_rfl) rfl (HFIN wx A C L hb hA hC hw hL hca hcl)
      have H710 : ∀ (wx : World) (A L : Nat) (hb : Below wc.heap.size wc wx) (hA : wx.heap[A]? = some (.cells (zeA.flatMap cellsA).toArray 37 (0, 0))) (hL : wx.heap[L]? = some (.cells ((plainC (zeL ⟨op, xd, xa, xb, xn, name⟩ c) zeA).lines.flatMap cellsL).toArray 41 (0, 0))), F 3 #[true, true, true, true, true, true, true, true, true, true, true, true, true, true, true, true, false, false, false] ⟨#[.int .i64 c, .int .i64 y, undef, undef, .bool false, .bool true, .pointer (some ⟨b, 0, none⟩), undef, u8, u9, u10, u11, u12, u13, u14, u15, u16, u17, u18, u19, u20, u21, .agg #[.string ⟨#[97]⟩, .int .i64 1], .slice (some ⟨A, 0, none⟩) 1 1, .int .i64 c, .agg #[.int .i64 16, .int .i64 5, .int .i64 0, .int .i64 0, .int .i64 c, .string ⟨#[]⟩], .agg #[.string ⟨#[]⟩, .int .i64 16, .int .i64 5, .int .i64 0, .int .i64 0, .int .i64 c, .string ⟨#[]⟩], .agg #[.int .i64 20, .int .i64 0, .int .i64 2, .int .i64 5, .int .i64 (-8), .string ⟨#[]⟩], .agg #[.string ⟨#[]⟩, .int .i64 20, .int .i64 0, .int .i64 2, .int .i64 5, .int .i64 (-8), .string ⟨#[]⟩], .agg #[.int .i64 op, .int .i64 xd, .int .i64 xa, .int .i64 xb, .int .i64 xn, .string (mk name)], .agg #[.string ⟨#[]⟩, .int .i64 op, .int .i64 xd, .int .i64 xa, .int .i64 xb, .int .i64 xn, .string (mk name)], .agg #[.int .i64 15, .int .i64 10, .int .i64 0, .int .i64 0, .int .i64 0, .string ⟨#[]⟩], .agg #[.string ⟨#[]⟩, .int .i64 15, .int .i64 10, .int .i64 0, .int .i64 0, .int .i64 0, .string ⟨#[]⟩], .agg #[.int .i64 16, .int .i64 17, .int .i64 0, .int .i64 0, .int .i64 3, .string ⟨#[]⟩], .agg #[.string ⟨#[]⟩, .int .i64 16, .int .i64 17, .int .i64 0, .int .i64 0, .int .i64 3, .string ⟨#[]⟩], .agg #[.int .i64 28, .int .i64 0, .int .i64 0, .int .i64 0, .int .i64 0, .string ⟨#[]⟩], .agg #[.string ⟨#[]⟩, .int .i64 28, .int .i64 0, .int .i64 0, .int .i64 0, .int .i64 0, .string ⟨#[]⟩], .slice (some ⟨L, 0, none⟩) 6 6, u38, u39, u40, u41, u42, u43, u44, u45], []⟩ wx := by
        intro wx A L hb hA hL
        rw [hF]
        refine wpAnyH_take (i := 16) (oi := { dst := some 38, op := _, type := _, pos := _, after := _, guard := _ }) (v := ?_) rfl (by kernel_rfl) (by kernel_rfl) (by kernel_rfl) (fun _ _ _ h => h) (Or.inl ⟨by rfl, ?hy⟩) (KEEP.out _ hb) ?_
        case hy => (intro w hSw; go_simp; try (with_reducible rfl))
        try simp only [Act.put, List.setIfInBounds_toArray, List.set_cons_zero, List.set_cons_succ]
        refine wpAnyH_ready (rs := [17]) (by kernel_rfl) (by simp) ?_
        refine AllReadyH.cons rfl (fun K hK => ?_) AllReadyH.nil
        go_simp
        refine hK.out _ _ (KEEP.out _ (ext_alloc hb (.cells #[.slice none 0 0, .slice none 0 0] 27))) (fun _ => ?_)
        clear hK K
        try simp only [Act.put, List.setIfInBounds_toArray, List.set_cons_zero, List.set_cons_succ]
        exact fapp hF rfl (by kernel_rfl) rfl (HFIN (wx.alloc (.cells #[.slice none 0 0, .slice none 0 0] 27)) A wx.heap.size L (ext_alloc hb (.cells #[.slice none 0 0, .slice none 0 0] 27)) ((Lib.alloc_old _ _ _ (Array.getElem?_eq_some_iff.1 hA).1).trans hA) (heap_new wx (.cells #[.slice none 0 0, .slice none 0 0] 27)) hb.size ((Lib.alloc_old _ _ _ (Array.getElem?_eq_some_iff.1 hL).1).trans hL) (Nat.ne_of_lt (Array.getElem?_eq_some_iff.1 hA).1) (Nat.ne_of_lt (Array.getElem?_eq_some_iff.1 hL).1))
      have H701 : ∀ (wx : World) (C L : Nat) (hb : Below wc.heap.size wc wx) (hC : wx.heap[C]? = some (.cells #[.slice none 0 0, .slice none 0 0] 27 (0, 0))) (hw : wc.heap.size ≤ C) (hL : wx.heap[L]? = some (.cells ((plainC (zeL ⟨op, xd, xa, xb, xn, name⟩ c) zeA).lines.flatMap cellsL).toArray 41 (0, 0))) (hcl : L ≠ C), F 3 #[true, false, true, true, true, true, true, true, true, true, true, true, true, true, true, true, false, true, false] ⟨#[.int .i64 c, .int .i64 y, undef, undef, .bool false, .bool true, .pointer (some ⟨b, 0, none⟩), .pointer (some ⟨C, 0, none⟩), u8, u9, u10, u11, u12, u13, u14, u15, u16, u17, u18, u19, u20, u21, .agg #[.string ⟨#[97]⟩, .int .i64 1], u23, .int .i64 c, .agg #[.int .i64 16, .int .i64 5, .int .i64 0, .int .i64 0, .int .i64 c, .string ⟨#[]⟩], .agg #[.string ⟨#[]⟩, .int .i64 16, .int .i64 5, .int .i64 0, .int .i64 0, .int .i64 c, .string ⟨#[]⟩], .agg #[.int .i64 20, .int .i64 0, .int .i64 2, .int .i64 5, .int .i64 (-8), .string ⟨#[]⟩], .agg #[.string ⟨#[]⟩, .int .i64 20, .int .i64 0, .int .i64 2, .int .i64 5, .int .i64 (-8), .string ⟨#[]⟩], .agg #[.int .i64 op, .int .i64 xd, .int .i64 xa, .int .i64 xb, .int .i64 xn, .string (mk name)], .agg #[.string ⟨#[]⟩, .int .i64 op, .int .i64 xd, .int .i64 xa, .int .i64 xb, .int .i64 xn, .string (mk name)], .agg #[.int .i64 15, .int .i64 10, .int .i64 0, .int .i64 0, .int .i64 0, .string ⟨#[]⟩], .agg #[.string ⟨#[]⟩, .int .i64 15, .int .i64 10, .int .i64 0, .int .i64 0, .int .i64 0, .string ⟨#[]⟩], .agg #[.int .i64 16, .int .i64 17, .int .i64 0, .int .i64 0, .int .i64 3, .string ⟨#[]⟩], .agg #[.string ⟨#[]⟩, .int .i64 16, .int .i64 17, .int .i64 0, .int .i64 0, .int .i64 3, .string ⟨#[]⟩], .agg #[.int .i64 28, .int .i64 0, .int .i64 0, .int .i64 0, .int .i64 0, .string ⟨#[]⟩], .agg #[.string ⟨#[]⟩, .int .i64 28, .int .i64 0, .int .i64 0, .int .i64 0, .int .i64 0, .string ⟨#[]⟩], .slice (some ⟨L, 0, none⟩) 6 6, u38, u39, u40, u41, u42, u43, u44, u45], []⟩ wx := by
        intro wx C L hb hC hw hL hcl
        rw [hF]
        refine wpAnyH_ready (rs := [1]) (by kernel_rfl) (by simp) ?_
        refine AllReadyH.cons rfl (fun K hK => ?_) AllReadyH.nil
        go_simp
        refine hK.out _ _ (KEEP.out _ (ext_alloc hb (.cells (zeA.flatMap cellsA).toArray 37))) (fun _ => ?_)
        clear hK K
        try simp only [Act.put, List.setIfInBounds_toArray, List.set_cons_zero, List.set_cons_succ]
        exact fapp hF rfl (by kernel_rfl) rfl (H711 (wx.alloc (.cells (zeA.flatMap cellsA).toArray 37)) wx.heap.size C L (ext_alloc hb (.cells (zeA.flatMap cellsA).toArray 37)) (heap_new wx (.cells (zeA.flatMap cellsA).toArray 37)) ((Lib.alloc_old _ _ _ (Array.getElem?_eq_some_iff.1 hC).1).trans hC) hw ((Lib.alloc_old _ _ _ (Array.getElem?_eq_some_iff.1 hL).1).trans hL) (Nat.ne_of_gt (Array.getElem?_eq_some_iff.1 hC).1) hcl)
      have H700 : ∀ (wx : World) (L : Nat) (hb : Below wc.heap.size wc wx) (hL : wx.heap[L]? = some (.cells ((plainC (zeL ⟨op, xd, xa, xb, xn, name⟩ c) zeA).lines.flatMap cellsL).toArray 41 (0, 0))), F 4 #[true, false, true, true, true, true, true, true, true, true, true, true, true, true, true, true, false, false, false] ⟨#[.int .i64 c, .int .i64 y, undef, undef, .bool false, .bool true, .pointer (some ⟨b, 0, none⟩), undef, u8, u9, u10, u11, u12, u13, u14, u15, u16, u17, u18, u19, u20, u21, .agg #[.string ⟨#[97]⟩, .int .i64 1], u23, .int .i64 c, .agg #[.int .i64 16, .int .i64 5, .int .i64 0, .int .i64 0, .int .i64 c, .string ⟨#[]⟩], .agg #[.string ⟨#[]⟩, .int .i64 16, .int .i64 5, .int .i64 0, .int .i64 0, .int .i64 c, .string ⟨#[]⟩], .agg #[.int .i64 20, .int .i64 0, .int .i64 2, .int .i64 5, .int .i64 (-8), .string ⟨#[]⟩], .agg #[.string ⟨#[]⟩, .int .i64 20, .int .i64 0, .int .i64 2, .int .i64 5, .int .i64 (-8), .string ⟨#[]⟩], .agg #[.int .i64 op, .int .i64 xd, .int .i64 xa, .int .i64 xb, .int .i64 xn, .string (mk name)], .agg #[.string ⟨#[]⟩, .int .i64 op, .int .i64 xd, .int .i64 xa, .int .i64 xb, .int .i64 xn, .string (mk name)], .agg #[.int .i64 15, .int .i64 10, .int .i64 0, .int .i64 0, .int .i64 0, .string ⟨#[]⟩], .agg #[.string ⟨#[]⟩, .int .i64 15, .int .i64 10, .int .i64 0, .int .i64 0, .int .i64 0, .string ⟨#[]⟩], .agg #[.int .i64 16, .int .i64 17, .int .i64 0, .int .i64 0, .int .i64 3, .string ⟨#[]⟩], .agg #[.string ⟨#[]⟩, .int .i64 16, .int .i64 17, .int .i64 0, .int .i64 0, .int .i64 3, .string ⟨#[]⟩], .agg #[.int .i64 28, .int .i64 0, .int .i64 0, .int .i64 0, .int .i64 0, .string ⟨#[]⟩], .agg #[.string ⟨#[]⟩, .int .i64 28, .int .i64 0, .int .i64 0, .int .i64 0, .int .i64 0, .string ⟨#[]⟩], .slice (some ⟨L, 0, none⟩) 6 6, u38, u39, u40, u41, u42, u43, u44, u45], []⟩ wx := by
        intro wx L hb hL
        rw [hF]
        refine wpAnyH_ready (rs := [1, 17]) (by kernel_rfl) (by simp) ?_
        refine AllReadyH.cons rfl (fun K hK => ?_) ?_
        · go_simp
          refine hK.out _ _ (KEEP.out _ (ext_alloc hb (.cells (zeA.flatMap cellsA).toArray 37))) (fun _ => ?_)
          clear hK K
          try simp only [Act.put, List.setIfInBounds_toArray, List.set_cons_zero, List.set_cons_succ]
          exact fapp hF rfl (by kernel_rfl) rfl (H710 (wx.alloc (.cells (zeA.flatMap cellsA).toArray 37)) wx.heap.size L (ext_alloc hb (.cells (zeA.flatMap cellsA).toArray 37)) (heap_new wx (.cells (zeA.flatMap cellsA).toArray 37)) ((Lib.alloc_old _ _ _ (Array.getElem?_eq_some_iff.1 hL).1).trans hL))
        refine AllReadyH.cons rfl (fun K hK => ?_) AllReadyH.nil
        go_simp
        refine hK.out _ _ (KEEP.out _ (ext_alloc hb (.cells #[.slice none 0 0, .slice none 0 0] 27))) (fun _ => ?_)
        clear hK K
        try simp only [Act.put, List.setIfInBounds_toArray, List.set_cons_zero, List.set_cons_succ]
        exact fapp hF rfl (by kernel_rfl) rfl (H701 (wx.alloc (.cells #[.slice none 0 0, .slice none 0 0] 27)) wx.heap.size L (ext_alloc hb (.cells #[.slice none 0 0, .slice none 0 0] 27)) (heap_new wx (.cells #[.slice none 0 0, .slice none 0 0] 27)) hb.size ((Lib.alloc_old _ _ _ (Array.getElem?_eq_some_iff.1 hL).1).trans hL) (Nat.ne_of_lt (Array.getElem?_eq_some_iff.1 hL).1))
      have H611 : ∀ (wx : World) (A C : Nat) (hb : Below wc.heap.size wc wx) (hA : wx.heap[A]? = some (.cells (zeA.flatMap cellsA).toArray 37 (0, 0))) (hC : wx.heap[C]? = some (.cells #[.slice none 0 0, .slice none 0 0] 27 (0, 0))) (hw : wc.heap.size ≤ C) (hca : A ≠ C), F 3 #[true, true, true, true, true, true, true, true, true, true, true, true, true, true, true, false, false, true, false] ⟨#[.int .i64 c, .int .i64 y, undef, undef, .bool false, .bool true, .pointer (some ⟨b, 0, none⟩), .pointer (some ⟨C, 0, none⟩), u8, u9, u10, u11, u12, u13, u14, u15, u16, u17, u18, u19, u20, u21, .agg #[.string ⟨#[97]⟩, .int .i64 1], .slice (some ⟨A, 0, none⟩) 1 1, .int .i64 c, .agg #[.int .i64 16, .int .i64 5, .int .i64 0, .int .i64 0, .int .i64 c, .string ⟨#[]⟩], .agg #[.string ⟨#[]⟩, .int .i64 16, .int .i64 5, .int .i64 0, .int .i64 0, .int .i64 c, .string ⟨#[]⟩], .agg #[.int .i64 20, .int .i64 0, .int .i64 2, .int .i64 5, .int .i64 (-8), .string ⟨#[]⟩], .agg #[.string ⟨#[]⟩, .int .i64 20, .int .i64 0, .int .i64 2, .int .i64 5, .int .i64 (-8), .string ⟨#[]⟩], .agg #[.int .i64 op, .int .i64 xd, .int .i64 xa, .int .i64 xb, .int .i64 xn, .string (mk name)], .agg #[.string ⟨#[]⟩, .int .i64 op, .int .i64 xd, .int .i64 xa, .int .i64 xb, .int .i64 xn, .string (mk name)], .agg #[.int .i64 15, .int .i64 10, .int .i64 0, .int .i64 0, .int .i64 0, .string ⟨#[]⟩], .agg #[.string ⟨#[]⟩, .int .i64 15, .int .i64 10, .int .i64 0, .int .i64 0, .int .i64 0, .string ⟨#[]⟩], .agg #[.int .i64 16, .int .i64 17, .int .i64 0, .int .i64 0, .int .i64 3, .string ⟨#[]⟩], .agg #[.string ⟨#[]⟩, .int .i64 16, .int .i64 17, .int .i64 0, .int .i64 0, .int .i64 3, .string ⟨#[]⟩], .agg #[.int .i64 28, .int .i64 0, .int .i64 0, .int .i64 0, .int .i64 0, .string ⟨#[]⟩], .agg #[.string ⟨#[]⟩, .int .i64 28, .int .i64 0, .int .i64 0, .int .i64 0, .int .i64 0, .string ⟨#[]⟩], u37, u38, u39, u40, u41, u42, u43, u44, u45], []⟩ wx := by
        intro wx A C hb hA hC hw hca
        rw [hF]
        refine wpAnyH_ready (rs := [15]) (by kernel_rfl) (by simp) ?_
        refine AllReadyH.cons rfl (fun K hK => ?_) AllReadyH.nil
        go_simp
        refine hK.out _ _ (KEEP.out _ (ext_alloc hb (.cells ((plainC (zeL ⟨op, xd, xa, xb, xn, name⟩ c) zeA).lines.flatMap cellsL).toArray 41))) (fun _ => ?_)
        clear hK K
        try simp only [Act.put, List.setIfInBounds_toArray, List.set_cons_zero, List.set_cons_succ]
        exact fapp hF rfl (by kernel_rfl) rfl (H711 (wx.alloc (.cells ((plainC (zeL ⟨op, xd, xa, xb, xn, name⟩ c) zeA).lines.flatMap cellsL).toArray 41)) A C wx.heap.size (ext_alloc hb (.cells ((plainC (zeL ⟨op, xd, xa, xb, xn, name⟩ c) zeA).lines.flatMap cellsL).toArray 41)) ((Lib.alloc_old _ _ _ (Array.getElem?_eq_some_iff.1 hA).1).trans hA) ((Lib.alloc_old _ _ _ (Array.getElem?_eq_some_iff.1 hC).1).trans hC) hw (heap_new wx (.cells ((plainC (zeL ⟨op, xd, xa, xb, xn, name⟩ c) zeA).lines.flatMap cellsL).toArray 41)) hca (Nat.ne_of_gt (Array.getElem?_eq_some_iff.1 hC).1))
      have H610 : ∀ (wx : World) (A : Nat) (hb : Below wc.heap.size wc wx) (hA : wx.heap[A]? = some (.cells (zeA.flatMap cellsA).toArray 37 (0, 0))), F 4 #[true, true, true, true, true, true, true, true, true, true, true, true, true, true, true, false, false, false, false] ⟨#[.int .i64 c, .int .i64 y, undef, undef, .bool false, .bool true, .pointer (some ⟨b, 0, none⟩), undef, u8, u9, u10, u11, u12, u13, u14, u15, u16, u17, u18, u19, u20, u21, .agg #[.string ⟨#[97]⟩, .int .i64 1], .slice (some ⟨A, 0, none⟩) 1 1, .int .i64 c, .agg #[.int .i64 16, .int .i64 5, .int .i64 0, .int .i64 0, .int .i64 c, .string ⟨#[]⟩], .agg #[.string ⟨#[]⟩, .int .i64 16, .int .i64 5, .int .i64 0, .int .i64 0, .int .i64 c, .string ⟨#[]⟩], .agg #[.int .i64 20, .int .i64 0, .int .i64 2, .int .i64 5, .int .i64 (-8), .string ⟨#[]⟩], .agg #[.string ⟨#[]⟩, .int .i64 20, .int .i64 0, .int .i64 2, .int .i64 5, .int .i64 (-8), .string ⟨#[]⟩], .agg #[.int .i64 op, .int .i64 xd, .int .i64 xa, .int .i64 xb, .int .i64 xn, .string (mk name)], .agg #[.string ⟨#[]⟩, .int .i64 op, .int .i64 xd, .int .i64 xa, .int .i64 xb, .int .i64 xn, .string (mk name)], .agg #[.int .i64 15, .int .i64 10, .int .i64 0, .int .i64 0, .int .i64 0, .string ⟨#[]⟩], .agg #[.string ⟨#[]⟩, .int .i64 15, .int .i64 10, .int .i64 0, .int .i64 0, .int .i64 0, .string ⟨#[]⟩], .agg #[.int .i64 16, .int .i64 17, .int .i64 0, .int .i64 0, .int .i64 3, .string ⟨#[]⟩], .agg #[.string ⟨#[]⟩, .int .i64 16, .int .i64 17, .int .i64 0, .int .i64 0, .int .i64 3, .string ⟨#[]⟩], .agg #[.int .i64 28, .int .i64 0, .int .i64 0, .int .i64 0, .int .i64 0, .string ⟨#[]⟩], .agg #[.string ⟨#[]⟩, .int .i64 28, .int .i64 0, .int .i64 0, .int .i64 0, .int .i64 0, .string ⟨#[]⟩], u37, u38, u39, u40, u41, u42, u43, u44, u45], []⟩ wx := by
        intro wx A hb hA
        rw [hF]
        refine wpAnyH_ready (rs := [15, 17]) (by kernel_rfl) (by simp) ?_
        refine AllReadyH.cons rfl (fun K hK => ?_) ?_
        · go_simp
          refine hK.out _ _ (KEEP.out _ (ext_alloc hb (.cells ((plainC (zeL ⟨op, xd, xa, xb, xn, name⟩ c) zeA).lines.flatMap cellsL).toArray 41))) (fun _ => ?_)
          clear hK K
          try simp only [Act.put, List.setIfInBounds_toArray, List.set_cons_zero, List.set_cons_succ]
          exact fapp hF rfl (by kernel_rfl) rfl (H710 (wx.alloc (.cells ((plainC (zeL ⟨op, xd, xa, xb, xn, name⟩ c) zeA).lines.flatMap cellsL).toArray 41)) A wx.heap.size (ext_alloc hb (.cells ((plainC (zeL ⟨op, xd, xa, xb, xn, name⟩ c) zeA).lines.flatMap cellsL).toArray 41)) ((Lib.alloc_old _ _ _ (Array.getElem?_eq_some_iff.1 hA).1).trans hA) (heap_new wx (.cells ((plainC (zeL ⟨op, xd, xa, xb, xn, name⟩ c) zeA).lines.flatMap cellsL).toArray 41)))
        refine AllReadyH.cons rfl (fun K hK => ?_) AllReadyH.nil
        go_simp
        refine hK.out _ _ (KEEP.out _ (ext_alloc hb (.cells #[.slice none 0 0, .slice none 0 0] 27))) (fun _ => ?_)
        clear hK K
        try simp only [Act.put, List.setIfInBounds_toArray, List.set_cons_zero, List.set_cons_succ]
        exact fapp hF rfl (by kernel_rfl) rfl (H611 (wx.alloc (.cells #[.slice none 0 0, .slice none 0 0] 27)) A wx.heap.size (ext_alloc hb (.cells #[.slice none 0 0, .slice none 0 0] 27)) ((Lib.alloc_old _ _ _ (Array.getElem?_eq_some_iff.1 hA).1).trans hA) (heap_new wx (.cells #[.slice none 0 0, .slice none 0 0] 27)) hb.size (Nat.ne_of_lt (Array.getElem?_eq_some_iff.1 hA).1))
      have H601 : ∀ (wx : World) (C : Nat) (hb : Below wc.heap.size wc wx) (hC : wx.heap[C]? = some (.cells #[.slice none 0 0, .slice none 0 0] 27 (0, 0))) (hw : wc.heap.size ≤ C), F 4 #[true, false, true, true, true, true, true, true, true, true, true, true, true, true, true, false, false, true, false] ⟨#[.int .i64 c, .int .i64 y, undef, undef, .bool false, .bool true, .pointer (some ⟨b, 0, none⟩), .pointer (some ⟨C, 0, none⟩), u8, u9, u10, u11, u12, u13, u14, u15, u16, u17, u18, u19, u20, u21, .agg #[.string ⟨#[97]⟩, .int .i64 1], u23, .int .i64 c, .agg #[.int .i64 16, .int .i64 5, .int .i64 0, .int .i64 0, .int .i64 c, .string ⟨#[]⟩], .agg #[.string ⟨#[]⟩, .int .i64 16, .int .i64 5, .int .i64 0, .int .i64 0, .int .i64 c, .string ⟨#[]⟩], .agg #[.int .i64 20, .int .i64 0, .int .i64 2, .int .i64 5, .int .i64 (-8), .string ⟨#[]⟩], .agg #[.string ⟨#[]⟩, .int .i64 20, .int .i64 0, .int .i64 2, .int .i64 5, .int .i64 (-8), .string ⟨#[]⟩], .agg #[.int .i64 op, .int .i64 xd, .int .i64 xa, .int .i64 xb, .int .i64 xn, .string (mk name)], .agg #[.string ⟨#[]⟩, .int .i64 op, .int .i64 xd, .int .i64 xa, .int .i64 xb, .int .i64 xn, .string (mk name)], .agg #[.int .i64 15, .int .i64 10, .int .i64 0, .int .i64 0, .int .i64 0, .string ⟨#[]⟩], .agg #[.string ⟨#[]⟩, .int .i64 15, .int .i64 10, .int .i64 0, .int .i64 0, .int .i64 0, .string ⟨#[]⟩], .agg #[.int .i64 16, .int .i64 17, .int .i64 0, .int .i64 0, .int .i64 3, .string ⟨#[]⟩], .agg #[.string ⟨#[]⟩, .int .i64 16, .int .i64 17, .int .i64 0, .int .i64 0, .int .i64 3, .string ⟨#[]⟩], .agg #[.int .i64 28, .int .i64 0, .int .i64 0, .int .i64 0, .int .i64 0, .string ⟨#[]⟩], .agg #[.string ⟨#[]⟩, .int .i64 28, .int .i64 0, .int .i64 0, .int .i64 0, .int .i64 0, .string ⟨#[]⟩], u37, u38, u39, u40, u41, u42, u43, u44, u45], []⟩ wx := by
        intro wx C hb hC hw
        rw [hF]
        refine wpAnyH_ready (rs := [1, 15]) (by kernel_rfl) (by simp) ?_
        refine AllReadyH.cons rfl (fun K hK => ?_) ?_
        · go_simp
          refine hK.out _ _ (KEEP.out _ (ext_alloc hb (.cells (zeA.flatMap cellsA).toArray 37))) (fun _ => ?_)
          clear hK K
          try simp only [Act.put, List.setIfInBounds_toArray, List.set_cons_zero, List.set_cons_succ]
          exact fapp hF rfl (by kernel_rfl) rfl (H611 (wx.alloc (.cells (zeA.flatMap cellsA).toArray 37)) wx.heap.size C (ext_alloc hb (.cells (zeA.flatMap cellsA).toArray 37)) (heap_new wx (.cells (zeA.flatMap cellsA).toArray 37)) ((Lib.alloc_old _ _ _ (Array.getElem?_eq_some_iff.1 hC).1).trans hC) hw (Nat.ne_of_gt (Array.getElem?_eq_some_iff.1 hC).1))
        refine AllReadyH.cons rfl (fun K hK => ?_) AllReadyH.nil
        go_simp
        refine hK.out _ _ (KEEP.out _ (ext_alloc hb (.cells ((plainC (zeL ⟨op, xd, xa, xb, xn, name⟩ c) zeA).lines.flatMap cellsL).toArray 41))) (fun _ => ?_)
        clear hK K
        try simp only [Act.put, List.setIfInBounds_toArray, List.set_cons_zero, List.set_cons_succ]
        exact fapp hF rfl (by kernel_rfl) rfl (H701 (wx.alloc (.cells ((plainC (zeL ⟨op, xd, xa, xb, xn, name⟩ c) zeA).lines.flatMap cellsL).toArray 41)) C wx.heap.size (ext_alloc hb (.cells ((plainC (zeL ⟨op, xd, xa, xb, xn, name⟩ c) zeA).lines.flatMap cellsL).toArray 41)) ((Lib.alloc_old _ _ _ (Array.getElem?_eq_some_iff.1 hC).1).trans hC) hw (heap_new wx (.cells ((plainC (zeL ⟨op, xd, xa, xb, xn, name⟩ c) zeA).lines.flatMap cellsL).toArray 41)) (Nat.ne_of_gt (Array.getElem?_eq_some_iff.1 hC).1))
      have H600 : ∀ (wx : World) (hb : Below wc.heap.size wc wx), F 5 #[true, false, true, true, true, true, true, true, true, true, true, true, true, true, true, false, false, false, false] ⟨#[.int .i64 c, .int .i64 y, undef, undef, .bool false, .bool true, .pointer (some ⟨b, 0, none⟩), undef, u8, u9, u10, u11, u12, u13, u14, u15, u16, u17, u18, u19, u20, u21, .agg #[.string ⟨#[97]⟩, .int .i64 1], u23, .int .i64 c, .agg #[.int .i64 16, .int .i64 5, .int .i64 0, .int .i64 0, .int .i64 c, .string ⟨#[]⟩], .agg #[.string ⟨#[]⟩, .int .i64 16, .int .i64 5, .int .i64 0, .int .i64 0, .int .i64 c, .string ⟨#[]⟩], .agg #[.int .i64 20, .int .i64 0, .int .i64 2, .int .i64 5, .int .i64 (-8), .string ⟨#[]⟩], .agg #[.string ⟨#[]⟩, .int .i64 20, .int .i64 0, .int .i64 2, .int .i64 5, .int .i64 (-8), .string ⟨#[]⟩], .agg #[.int .i64 op, .int .i64 xd, .int .i64 xa, .int .i64 xb, .int .i64 xn, .string (mk name)], .agg #[.string ⟨#[]⟩, .int .i64 op, .int .i64 xd, .int .i64 xa, .int .i64 xb, .int .i64 xn, .string (mk name)], .agg #[.int .i64 15, .int .i64 10, .int .i64 0, .int .i64 0, .int .i64 0, .string ⟨#[]⟩], .agg #[.string ⟨#[]⟩, .int .i64 15, .int .i64 10, .int .i64 0, .int .i64 0, .int .i64 0, .string ⟨#[]⟩], .agg #[.int .i64 16, .int .i64 17, .int .i64 0, .int .i64 0, .int .i64 3, .string ⟨#[]⟩], .agg #[.string ⟨#[]⟩, .int .i64 16, .int .i64 17, .int .i64 0, .int .i64 0, .int .i64 3, .string ⟨#[]⟩], .agg #[.int .i64 28, .int .i64 0, .int .i64 0, .int .i64 0, .int .i64 0, .string ⟨#[]⟩], .agg #[.string ⟨#[]⟩, .int .i64 28, .int .i64 0, .int .i64 0, .int .i64 0, .int .i64 0, .string ⟨#[]⟩], u37, u38, u39, u40, u41, u42, u43, u44, u45], []⟩ wx := by
        intro wx  hb
        rw [hF]
        refine wpAnyH_ready (rs := [1, 15, 17]) (by kernel_rfl) (by simp) ?_
        refine AllReadyH.cons rfl (fun K hK => ?_) ?_
        · go_simp
          refine hK.out _ _ (KEEP.out _ (ext_alloc hb (.cells (zeA.flatMap cellsA).toArray 37))) (fun _ => ?_)
          clear hK K
          try simp only [Act.put, List.setIfInBounds_toArray, List.set_cons_zero, List.set_cons_succ]
          exact fapp hF rfl (by kernel_rfl) rfl (H610 (wx.alloc (.cells (zeA.flatMap cellsA).toArray 37)) wx.heap.size (ext_alloc hb (.cells (zeA.flatMap cellsA).toArray 37)) (heap_new wx (.cells (zeA.flatMap cellsA).toArray 37)))
        refine AllReadyH.cons rfl (fun K hK => ?_) ?_
        · go_simp
          refine hK.out _ _ (KEEP.out _ (ext_alloc hb (.cells ((plainC (zeL ⟨op, xd, xa, xb, xn, name⟩ c) zeA).lines.flatMap cellsL).toArray 41))) (fun _ => ?_)
          clear hK K
          try simp only [Act.put, List.setIfInBounds_toArray, List.set_cons_zero, List.set_cons_succ]
          exact fapp hF rfl (by kernel_rfl) rfl (H700 (wx.alloc (.cells ((plainC (zeL ⟨op, xd, xa, xb, xn, name⟩ c) zeA).lines.flatMap cellsL).toArray 41)) wx.heap.size (ext_alloc hb (.cells ((plainC (zeL ⟨op, xd, xa, xb, xn, name⟩ c) zeA).lines.flatMap cellsL).toArray 41)) (heap_new wx (.cells ((plainC (zeL ⟨op, xd, xa, xb, xn, name⟩ c) zeA).lines.flatMap cellsL).toArray 41)))
        refine AllReadyH.cons rfl (fun K hK => ?_) AllReadyH.nil
        go_simp
        refine hK.out _ _ (KEEP.out _ (ext_alloc hb (.cells #[.slice none 0 0, .slice none 0 0] 27))) (fun _ => ?_)
        clear hK K
        try simp only [Act.put, List.setIfInBounds_toArray, List.set_cons_zero, List.set_cons_succ]
        exact fapp hF rfl (by kernel_rfl) rfl (H601 (wx.alloc (.cells #[.slice none 0 0, .slice none 0 0] 27)) wx.heap.size (ext_alloc hb (.cells #[.slice none 0 0, .slice none 0 0] 27)) (heap_new wx (.cells #[.slice none 0 0, .slice none 0 0] 27)) hb.size)
      have H511 : ∀ (wx : World) (A C : Nat) (hb : Below wc.heap.size wc wx) (hA : wx.heap[A]? = some (.cells (zeA.flatMap cellsA).toArray 37 (0, 0))) (hC : wx.heap[C]? = some (.cells #[.slice none 0 0, .slice none 0 0] 27 (0, 0))) (hw : wc.heap.size ≤ C) (hca : A ≠ C), F 4 #[true, true, true, true, true, true, true, true, true, true, true, true, true, true, false, false, false, true, false] ⟨#[.int .i64 c, .int .i64 y, undef, undef, .bool false, .bool true, .pointer (some ⟨b, 0, none⟩), .pointer (some ⟨C, 0, none⟩), u8, u9, u10, u11, u12, u13, u14, u15, u16, u17, u18, u19, u20, u21, .agg #[.string ⟨#[97]⟩, .int .i64 1], .slice (some ⟨A, 0, none⟩) 1 1, .int .i64 c, .agg #[.int .i64 16, .int .i64 5, .int .i64 0, .int .i64 0, .int .i64 c, .string ⟨#[]⟩], .agg #[.string ⟨#[]⟩, .int .i64 16, .int .i64 5, .int .i64 0, .int .i64 0, .int .i64 c, .string ⟨#[]⟩], .agg #[.int .i64 20, .int .i64 0, .int .i64 2, .int .i64 5, .int .i64 (-8), .string ⟨#[]⟩], .agg #[.string ⟨#[]⟩, .int .i64 20, .int .i64 0, .int .i64 2, .int .i64 5, .int .i64 (-8), .string ⟨#[]⟩], .agg #[.int .i64 op, .int .i64 xd, .int .i64 xa, .int .i64 xb, .int .i64 xn, .string (mk name)], .agg #[.string ⟨#[]⟩, .int .i64 op, .int .i64 xd, .int .i64 xa, .int .i64 xb, .int .i64 xn, .string (mk name)], .agg #[.int .i64 15, .int .i64 10, .int .i64 0, .int .i64 0, .int .i64 0, .string ⟨#[]⟩], .agg #[.string ⟨#[]⟩, .int .i64 15, .int .i64 10, .int .i64 0, .int .i64 0, .int .i64 0, .string ⟨#[]⟩], .agg #[.int .i64 16, .int .i64 17, .int .i64 0, .int .i64 0, .int .i64 3, .string ⟨#[]⟩], .agg #[.string ⟨#[]⟩, .int .i64 16, .int .i64 17, .int .i64 0, .int .i64 0, .int .i64 3, .string ⟨#[]⟩], .agg #[.int .i64 28, .int .i64 0, .int .i64 0, .int .i64 0, .int .i64 0, .string ⟨#[]⟩], u36, u37, u38, u39, u40, u41, u42, u43, u44, u45], []⟩ wx := by
        intro wx A C hb hA hC hw hca
        rw [hF]
        refine wpAnyH_ready (rs := [14]) (by kernel_rfl) (by simp) ?_
        refine AllReadyH.cons rfl (fun K hK => ?_) AllReadyH.nil
        go_simp
        refine (line_any _ _ _ _ _ _ _).mono ?_; rintro e v ⟨rfl, g⟩
        refine hK.out _ _ (KEEP.out _ (ext_trans hb g)) (fun _ => ?_)
        clear hK K
        try simp only [Act.put, List.setIfInBounds_toArray, List.set_cons_zero, List.set_cons_succ]
        exact fapp hF rfl (by kernel_rfl) rfl (H611 v A C (ext_trans hb g) ((g.block _ (Array.getElem?_eq_some_iff.1 hA).1).trans hA) ((g.block _ (Array.getElem?_eq_some_iff.1 hC).1).trans hC) hw hca)
      have H510 : ∀ (wx : World) (A : Nat) (hb : Below wc.heap.size wc wx) (hA : wx.heap[A]? = some (.cells (zeA.flatMap cellsA).toArray 37 (0, 0))), F 5 #[true, true, true, true, true, true, true, true, true, true, true, true, true, true, false, false, false, false, false] ⟨#[.int .i64 c, .int .i64 y, undef, undef, .bool false, .bool true, .pointer (some ⟨b, 0, none⟩), undef, u8, u9, u10, u11, u12, u13, u14, u15, u16, u17, u18, u19, u20, u21, .agg #[.string ⟨#[97]⟩, .int .i64 1], .slice (some ⟨A, 0, none⟩) 1 1, .int .i64 c, .agg #[.int .i64 16, .int .i64 5, .int .i64 0, .int .i64 0, .int .i64 c, .string ⟨#[]⟩], .agg #[.string ⟨#[]⟩, .int .i64 16, .int .i64 5, .int .i64 0, .int .i64 0, .int .i64 c, .string ⟨#[]⟩], .agg #[.int .i64 20, .int .i64 0, .int .i64 2, .int .i64 5, .int .i64 (-8), .string ⟨#[]⟩], .agg #[.string ⟨#[]⟩, .int .i64 20, .int .i64 0, .int .i64 2, .int .i64 5, .int .i64 (-8), .string ⟨#[]⟩], .agg #[.int .i64 op, .int .i64 xd, .int .i64 xa, .int .i64 xb, .int .i64 xn, .string (mk name)], .agg #[.string ⟨#[]⟩, .int .i64 op, .int .i64 xd, .int .i64 xa, .int .i64 xb, .int .i64 xn, .string (mk name)], .agg #[.int .i64 15, .int .i64 10, .int .i64 0, .int .i64 0, .int .i64 0, .string ⟨#[]⟩], .agg #[.string ⟨#[]⟩, .int .i64 15, .int .i64 10, .int .i64 0, .int .i64 0, .int .i64 0, .string ⟨#[]⟩], .agg #[.int .i64 16, .int .i64 17, .int .i64 0, .int .i64 0, .int .i64 3, .string ⟨#[]⟩], .agg #[.string ⟨#[]⟩, .int .i64 16, .int .i64 17, .int .i64 0, .int .i64 0, .int .i64 3, .string ⟨#[]⟩], .agg #[.int .i64 28, .int .i64 0, .int .i64 0, .int .i64 0, .int .i64 0, .string ⟨#[]⟩], u36, u37, u38, u39, u40, u41, u42, u43, u44, u45], []⟩ wx := by
        intro wx A hb hA
        rw [hF]
        refine wpAnyH_ready (rs := [14, 17]) (by kernel_rfl) (by simp) ?_
        refine AllReadyH.cons rfl (fun K hK => ?_) ?_
        · go_simp
          refine (line_any _ _ _ _ _ _ _).mono ?_; rintro e v ⟨rfl, g⟩
          refine hK.out _ _ (KEEP.out _ (ext_trans hb g)) (fun _ => ?_)
          clear hK K
          try simp only [Act.put, List.setIfInBounds_toArray, List.set_cons_zero, List.set_cons_succ]
          exact fapp hF rfl (by kernel_rfl) rfl (H610 v A (ext_trans hb g) ((g.block _ (Array.getElem?_eq_some_iff.1 hA).1).trans hA))
        refine AllReadyH.cons rfl (fun K hK => ?_) AllReadyH.nil
        go_simp
        refine hK.out _ _ (KEEP.out _ (ext_alloc hb (.cells #[.slice none 0 0, .slice none 0 0] 27))) (fun _ => ?_)
        clear hK K
        try simp only [Act.put, List.setIfInBounds_toArray, List.set_cons_zero, List.set_cons_succ]
        exact fapp hF rfl (by kernel_rfl) rfl (H511 (wx.alloc (.cells #[.slice none 0 0, .slice none 0 0] 27)) A wx.heap.size (ext_alloc hb (.cells #[.slice none 0 0, .slice none 0 0] 27)) ((Lib.alloc_old _ _ _ (Array.getElem?_eq_some_iff.1 hA).1).trans hA) (heap_new wx (.cells #[.slice none 0 0, .slice none 0 0] 27)) hb.size (Nat.ne_of_lt (Array.getElem?_eq_some_iff.1 hA).1))
      have H501 : ∀ (wx : World) (C : Nat) (hb : Below wc.heap.size wc wx) (hC : wx.heap[C]? = some (.cells #[.slice none 0 0, .slice none 0 0] 27 (0, 0))) (hw : wc.heap.size ≤ C), F 5 #[true, false, true, true, true, true, true, true, true, true, true, true, true, true, false, false, false, true, false] ⟨#[.int .i64 c, .int .i64 y, undef, undef, .bool false, .bool true, .pointer (some ⟨b, 0, none⟩), .pointer (some ⟨C, 0, none⟩), u8, u9, u10, u11, u12, u13, u14, u15, u16, u17, u18, u19, u20, u21, .agg #[.string ⟨#[97]⟩, .int .i64 1], u23, .int .i64 c, .agg #[.int .i64 16, .int .i64 5, .int .i64 0, .int .i64 0, .int .i64 c, .string ⟨#[]⟩], .agg #[.string ⟨#[]⟩, .int .i64 16, .int .i64 5, .int .i64 0, .int .i64 0, .int .i64 c, .string ⟨#[]⟩], .agg #[.int .i64 20, .int .i64 0, .int .i64 2, .int .i64 5, .int .i64 (-8), .string ⟨#[]⟩], .agg #[.string ⟨#[]⟩, .int .i64 20, .int .i64 0, .int .i64 2, .int .i64 5, .int .i64 (-8), .string ⟨#[]⟩], .agg #[.int .i64 op, .int .i64 xd, .int .i64 xa, .int .i64 xb, .int .i64 xn, .string (mk name)], .agg #[.string ⟨#[]⟩, .int .i64 op, .int .i64 xd, .int .i64 xa, .int .i64 xb, .int .i64 xn, .string (mk name)], .agg #[.int .i64 15, .int .i64 10, .int .i64 0, .int .i64 0, .int .i64 0, .string ⟨#[]⟩], .agg #[.string ⟨#[]⟩, .int .i64 15, .int .i64 10, .int .i64 0, .int .i64 0, .int .i64 0, .string ⟨#[]⟩], .agg #[.int .i64 16, .int .i64 17, .int .i64 0, .int .i64 0, .int .i64 3, .string ⟨#[]⟩], .agg #[.string ⟨#[]⟩, .int .i64 16, .int .i64 17, .int .i64 0, .int .i64 0, .int .i64 3, .string ⟨#[]⟩], .agg #[.int .i64 28, .int .i64 0, .int .i64 0, .int .i64 0, .int .i64 0, .string ⟨#[]⟩], u36, u37, u38, u39, u40, u41, u42, u43, u44, u45], []⟩ wx := by
        intro wx C hb hC hw
        rw [hF]
        refine wpAnyH_ready (rs := [1, 14]) (by kernel_rfl) (by simp) ?_
        refine AllReadyH.cons rfl (fun K hK => ?_) ?_
        · go_simp
          refine hK.out _ _ (KEEP.out _ (ext_alloc hb (.cells (zeA.flatMap cellsA).toArray 37))) (fun _ => ?_)
          clear hK K
          try simp only [Act.put, List.setIfInBounds_toArray, List.set_cons_zero, List.set_cons_succ]
          exact fapp hF rfl (by kernel_rfl) rfl (H511 (wx.alloc (.cells (zeA.flatMap cellsA).toArray 37)) wx.heap.size C (ext_alloc hb (.cells (zeA.flatMap cellsA).toArray 37)) (heap_new wx (.cells (zeA.flatMap cellsA).toArray 37)) ((Lib.alloc_old _ _ _ (Array.getElem?_eq_some_iff.1 hC).1).trans hC) hw (Nat.ne_of_gt (Array.getElem?_eq_some_iff.1 hC).1))
        refine AllReadyH.cons rfl (fun K hK => ?_) AllReadyH.nil
        go_simp
        refine (line_any _ _ _ _ _ _ _).mono ?_; rintro e v ⟨rfl, g⟩
        refine hK.out _ _ (KEEP.out _ (ext_trans hb g)) (fun _ => ?_)
        clear hK K
        try simp only [Act.put, List.setIfInBounds_toArray, List.set_cons_zero, List.set_cons_succ]
        exact fapp hF rfl (by kernel_rfl) rfl (H601 v C (ext_trans hb g) ((g.block _ (Array.getElem?_eq_some_iff.1 hC).1).trans hC) hw)
      have H500 : ∀ (wx : World) (hb : Below wc.heap.size wc wx), F 6 #[true, false, true, true, true, true, true, true, true, true, true, true, true, true, false, false, false, false, false] ⟨#[.int .i64 c, .int .i64 y, undef, undef, .bool false, .bool true, .pointer (some ⟨b, 0, none⟩), undef, u8, u9, u10, u11, u12, u13, u14, u15, u16, u17, u18, u19, u20, u21, .agg #[.string ⟨#[97]⟩, .int .i64 1], u23, .int .i64 c, .agg #[.int .i64 16, .int .i64 5, .int .i64 0, .int .i64 0, .int .i64 c, .string ⟨#[]⟩], .agg #[.string ⟨#[]⟩, .int .i64 16, .int .i64 5, .int .i64 0, .int .i64 0, .int .i64 c, .string ⟨#[]⟩], .agg #[.int .i64 20, .int .i64 0, .int .i64 2, .int .i64 5, .int .i64 (-8), .string ⟨#[]⟩], .agg #[.string ⟨#[]⟩, .int .i64 20, .int .i64 0, .int .i64 2, .int .i64 5, .int .i64 (-8), .string ⟨#[]⟩], .agg #[.int .i64 op, .int .i64 xd, .int .i64 xa, .int .i64 xb, .int .i64 xn, .string (mk name)], .agg #[.string ⟨#[]⟩, .int .i64 op, .int .i64 xd, .int .i64 xa, .int .i64 xb, .int .i64 xn, .string (mk name)], .agg #[.int .i64 15, .int .i64 10, .int .i64 0, .int .i64 0, .int .i64 0, .string ⟨#[]⟩], .agg #[.string ⟨#[]⟩, .int .i64 15, .int .i64 10, .int .i64 0, .int .i64 0, .int .i64 0, .string ⟨#[]⟩], .agg #[.int .i64 16, .int .i64 17, .int .i64 0, .int .i64 0, .int .i64 3, .string ⟨#[]⟩], .agg #[.string ⟨#[]⟩, .int .i64 16, .int .i64 17, .int .i64 0, .int .i64 0, .int .i64 3, .string ⟨#[]⟩], .agg #[.int .i64 28, .int .i64 0, .int .i64 0, .int .i64 0, .int .i64 0, .string ⟨#[]⟩], u36, u37, u38, u39, u40, u41, u42, u43, u44, u45], []⟩ wx := by
        intro wx  hb
        rw [hF]
        refine wpAnyH_ready (rs := [1, 14, 17]) (by kernel_rfl) (by simp) ?_
        refine AllReadyH.cons rfl (fun K hK => ?_) ?_
        · go_simp
          refine hK.out _ _ (KEEP.out _ (ext_alloc hb (.cells (zeA.flatMap cellsA).toArray 37))) (fun _ => ?_)
          clear hK K
          try simp only [Act.put, List.setIfInBounds_toArray, List.set_cons_zero, List.set_cons_succ]
          exact fapp hF rfl (by kernel_rfl) rfl (H510 (wx.alloc (.cells (zeA.flatMap cellsA).toArray 37)) wx.heap.size (ext_alloc hb (.cells (zeA.flatMap cellsA).toArray 37)) (heap_new wx (.cells (zeA.flatMap cellsA).toArray 37)))
        refine AllReadyH.cons rfl (fun K hK => ?_) ?_
        · go_simp
          refine (line_any _ _ _ _ _ _ _).mono ?_; rintro e v ⟨rfl, g⟩
          refine hK.out _ _ (KEEP.out _ (ext_trans hb g)) (fun _ => ?_)
          clear hK K
          try simp only [Act.put, List.setIfInBounds_toArray, List.set_cons_zero, List.set_cons_succ]
          exact fapp hF rfl (by kernel_rfl) rfl (H600 v (ext_trans hb g))
        refine AllReadyH.cons rfl (fun K hK => ?_) AllReadyH.nil
        go_simp
        refine hK.out _ _ (KEEP.out _ (ext_alloc hb (.cells #[.slice none 0 0, .slice none 0 0] 27))) (fun _ => ?_)
        clear hK K
        try simp only [Act.put, List.setIfInBounds_toArray, List.set_cons_zero, List.set_cons_succ]
        exact fapp hF rfl (by kernel_rfl) rfl (H501 (wx.alloc (.cells #[.slice none 0 0, .slice none 0 0] 27)) wx.heap.size (ext_alloc hb (.cells #[.slice none 0 0, .slice none 0 0] 27)) (heap_new wx (.cells #[.slice none 0 0, .slice none 0 0] 27)) hb.size)
      have H411 : ∀ (wx : World) (A C : Nat) (hb : Below wc.heap.size wc wx) (hA : wx.heap[A]? = some (.cells (zeA.flatMap cellsA).toArray 37 (0, 0))) (hC : wx.heap[C]? = some (.cells #[.slice none 0 0, .slice none 0 0] 27 (0, 0))) (hw : wc.heap.size ≤ C) (hca : A ≠ C), F 5 #[true, true, true, true, true, true, true, true, true, true, true, true, false, true, false, false, false, true, false] ⟨#[.int .i64 c, .int .i64 y, undef, undef, .bool false, .bool true, .pointer (some ⟨b, 0, none⟩), .pointer (some ⟨C, 0, none⟩), u8, u9, u10, u11, u12, u13, u14, u15, u16, u17, u18, u19, u20, u21, .agg #[.string ⟨#[97]⟩, .int .i64 1], .slice (some ⟨A, 0, none⟩) 1 1, .int .i64 c, .agg #[.int .i64 16, .int .i64 5, .int .i64 0, .int .i64 0, .int .i64 c, .string ⟨#[]⟩], .agg #[.string ⟨#[]⟩, .int .i64 16, .int .i64 5, .int .i64 0, .int .i64 0, .int .i64 c, .string ⟨#[]⟩], .agg #[.int .i64 20, .int .i64 0, .int .i64 2, .int .i64 5, .int .i64 (-8), .string ⟨#[]⟩], .agg #[.string ⟨#[]⟩, .int .i64 20, .int .i64 0, .int .i64 2, .int .i64 5, .int .i64 (-8), .string ⟨#[]⟩], .agg #[.int .i64 op, .int .i64 xd, .int .i64 xa, .int .i64 xb, .int .i64 xn, .string (mk name)], .agg #[.string ⟨#[]⟩, .int .i64 op, .int .i64 xd, .int .i64 xa, .int .i64 xb, .int .i64 xn, .string (mk name)], .agg #[.int .i64 15, .int .i64 10, .int .i64 0, .int .i64 0, .int .i64 0, .string ⟨#[]⟩], .agg #[.string ⟨#[]⟩, .int .i64 15, .int .i64 10, .int .i64 0, .int .i64 0, .int .i64 0, .string ⟨#[]⟩], .agg #[.int .i64 16, .int .i64 17, .int .i64 0, .int .i64 0, .int .i64 3, .string ⟨#[]⟩], u34, .agg #[.int .i64 28, .int .i64 0, .int .i64 0, .int .i64 0, .int .i64 0, .string ⟨#[]⟩], u36, u37, u38, u39, u40, u41, u42, u43, u44, u45], []⟩ wx := by
        intro wx A C hb hA hC hw hca
        rw [hF]
        refine wpAnyH_ready (rs := [12]) (by kernel_rfl) (by simp) ?_
        refine AllReadyH.cons rfl (fun K hK => ?_) AllReadyH.nil
        go_simp
        refine (line_any _ _ _ _ _ _ _).mono ?_; rintro e v ⟨rfl, g⟩
        refine hK.out _ _ (KEEP.out _ (ext_trans hb g)) (fun _ => ?_)
        clear hK K
        try simp only [Act.put, List.setIfInBounds_toArray, List.set_cons_zero, List.set_cons_succ]
        exact fapp hF rfl (by kernel_rfl) rfl (H511 v A C (ext_trans hb g) ((g.block _ (Array.getElem?_eq_some_iff.1 hA).1).trans hA) ((g.block _ (Array.getElem?_eq_some_iff.1 hC).1).trans hC) hw hca)
      have H410 : ∀ (wx : World) (A : Nat) (hb : Below wc.heap.size wc wx) (hA : wx.heap[A]? = some (.cells (zeA.flatMap cellsA).toArray 37 (0, 0))), F 6 #[true, true, true, true, true, true, true, true, true, true, true, true, false, true, false, false, false, false, false] ⟨#[.int .i64 c, .int .i64 y, undef, undef, .bool false, .bool true, .pointer (some ⟨b, 0, none⟩), undef, u8, u9, u10, u11, u12, u13, u14, u15, u16, u17, u18, u19, u20, u21, .agg #[.string ⟨#[97]⟩, .int .i64 1], .slice (some ⟨A, 0, none⟩) 1 1, .int .i64 c, .agg #[.int .i64 16, .int .i64 5, .int .i64 0, .int .i64 0, .int .i64 c, .string ⟨#[]⟩], .agg #[.string ⟨#[]⟩, .int .i64 16, .int .i64 5, .int .i64 0, .int .i64 0, .int .i64 c, .string ⟨#[]⟩], .agg #[.int .i64 20, .int .i64 0, .int .i64 2, .int .i64 5, .int .i64 (-8), .string ⟨#[]⟩], .agg #[.string ⟨#[]⟩, .int .i64 20, .int .i64 0, .int .i64 2, .int .i64 5, .int .i64 (-8), .string ⟨#[]⟩], .agg #[.int .i64 op, .int .i64 xd, .int .i64 xa, .int .i64 xb, .int .i64 xn, .string (mk name)], .agg #[.string ⟨#[]⟩, .int .i64 op, .int .i64 xd, .int .i64 xa, .int .i64 xb, .int .i64 xn, .string (mk name)], .agg #[.int .i64 15, .int .i64 10, .int .i64 0, .int .i64 0, .int .i64 0, .string ⟨#[]⟩], .agg #[.string ⟨#[]⟩, .int .i64 15, .int .i64 10, .int .i64 0, .int .i64 0, .int .i64 0, .string ⟨#[]⟩], .agg #[.int .i64 16, .int .i64 17, .int .i64 0, .int .i64 0, .int .i64 3, .string ⟨#[]⟩], u34, .agg #[.int .i64 28, .int .i64 0, .int .i64 0, .int .i64 0, .int .i64 0, .string ⟨#[]⟩], u36, u37, u38, u39, u40, u41, u42, u43, u44, u45], []⟩ wx := by
        intro wx A hb hA
        rw [hF]
        refine wpAnyH_ready (rs := [12, 17]) (by kernel_rfl) (by simp) ?_
        refine AllReadyH.cons rfl (fun K hK => ?_) ?_
        · go_simp
          refine (line_any _ _ _ _ _ _ _).mono ?_; rintro e v ⟨rfl, g⟩
          refine hK.out _ _ (KEEP.out _ (ext_trans hb g)) (fun _ => ?_)
          clear hK K
          try simp only [Act.put, List.setIfInBounds_toArray, List.set_cons_zero, List.set_cons_succ]
          exact fapp hF rfl (by kernel_rfl) rfl (H510 v A (ext_trans hb g) ((g.block _ (Array.getElem?_eq_some_iff.1 hA).1).trans hA))
        refine AllReadyH.cons rfl (fun K hK => ?_) AllReadyH.nil
        go_simp
        refine hK.out _ _ (KEEP.out _ (ext_alloc hb (.cells #[.slice none 0 0, .slice none 0 0] 27))) (fun _ => ?_)
        clear hK K
        try simp only [Act.put, List.setIfInBounds_toArray, List.set_cons_zero, List.set_cons_succ]
        exact fapp hF rfl (by kernel_rfl) rfl (H411 (wx.alloc (.cells #[.slice none 0 0, .slice none 0 0] 27)) A wx.heap.size (ext_alloc hb (.cells #[.slice none 0 0, .slice none 0 0] 27)) ((Lib.alloc_old _ _ _ (Array.getElem?_eq_some_iff.1 hA).1).trans hA) (heap_new wx (.cells #[.slice none 0 0, .slice none 0 0] 27)) hb.size (Nat.ne_of_lt (Array.getElem?_eq_some_iff.1 hA).1))
      have H401 : ∀ (wx : World) (C : Nat) (hb : Below wc.heap.size wc wx) (hC : wx.heap[C]? = some (.cells #[.slice none 0 0, .slice none 0 0] 27 (0, 0))) (hw : wc.heap.size ≤ C), F 6 #[true, false, true, true, true, true, true, true, true, true, true, true, false, true, false, false, false, true, false] ⟨#[.int .i64 c, .int .i64 y, undef, undef, .bool false, .bool true, .pointer (some ⟨b, 0, none⟩), .pointer (some ⟨C, 0, none⟩), u8, u9, u10, u11, u12, u13, u14, u15, u16, u17, u18, u19, u20, u21, .agg #[.string ⟨#[97]⟩, .int .i64 1], u23, .int .i64 c, .agg #[.int .i64 16, .int .i64 5, .int .i64 0, .int .i64 0, .int .i64 c, .string ⟨#[]⟩], .agg #[.string ⟨#[]⟩, .int .i64 16, .int .i64 5, .int .i64 0, .int .i64 0, .int .i64 c, .string ⟨#[]⟩], .agg #[.int .i64 20, .int .i64 0, .int .i64 2, .int .i64 5, .int .i64 (-8), .string ⟨#[]⟩], .agg #[.string ⟨#[]⟩, .int .i64 20, .int .i64 0, .int .i64 2, .int .i64 5, .int .i64 (-8), .string ⟨#[]⟩], .agg #[.int .i64 op, .int .i64 xd, .int .i64 xa, .int .i64 xb, .int .i64 xn, .string (mk name)], .agg #[.string ⟨#[]⟩, .int .i64 op, .int .i64 xd, .int .i64 xa, .int .i64 xb, .int .i64 xn, .string (mk name)], .agg #[.int .i64 15, .int .i64 10, .int .i64 0, .int .i64 0, .int .i64 0, .string ⟨#[]⟩], .agg #[.string ⟨#[]⟩, .int .i64 15, .int .i64 10, .int .i64 0, .int .i64 0, .int .i64 0, .string ⟨#[]⟩], .agg #[.int .i64 16, .int .i64 17, .int .i64 0, .int .i64 0, .int .i64 3, .string ⟨#[]⟩], u34, .agg #[.int .i64 28, .int .i64 0, .int .i64 0, .int .i64 0, .int .i64 0, .string ⟨#[]⟩], u36, u37, u38, u39, u40, u41, u42, u43, u44, u45], []⟩ wx := by
        intro wx C hb hC hw
        rw [hF]
        refine wpAnyH_ready (rs := [1, 12]) (by kernel_rfl) (by simp) ?_
        refine AllReadyH.cons rfl (fun K hK => ?_) ?_
        · go_simp
          refine hK.out _ _ (KEEP.out _ (ext_alloc hb (.cells (zeA.flatMap cellsA).toArray 37))) (fun _ => ?_)
          clear hK K
          try simp only [Act.put, List.setIfInBounds_toArray, List.set_cons_zero, List.set_cons_succ]
          exact fapp hF rfl (by kernel_rfl) rfl (H411 (wx.alloc (.cells (zeA.flatMap cellsA).toArray 37)) wx.heap.size C (ext_alloc hb (.cells (zeA.flatMap cellsA).toArray 37)) (heap_new wx (.cells (zeA.flatMap cellsA).toArray 37)) ((Lib.alloc_old _ _ _ (Array.getElem?_eq_some_iff.1 hC).1).trans hC) hw (Nat.ne_of_gt (Array.getElem?_eq_some_iff.1 hC).1))
        refine AllReadyH.cons rfl (fun K hK => ?_) AllReadyH.nil
        go_simp
        refine (line_any _ _ _ _ _ _ _).mono ?_; rintro e v ⟨rfl, g⟩
        refine hK.out _ _ (KEEP.out _ (ext_trans hb g)) (fun _ => ?_)
        clear hK K
        try simp only [Act.put, List.setIfInBounds_toArray, List.set_cons_zero, List.set_cons_succ]
        exact fapp hF rfl (by kernel_rfl) rfl (H501 v C (ext_trans hb g) ((g.block _ (Array.getElem?_eq_some_iff.1 hC).1).trans hC) hw)
      have H400 : ∀ (wx : World) (hb : Below wc.heap.size wc wx), F 7 #[true, false, true, true, true, true, true, true, true, true, true, true, false, true, false, false, false, false, false] ⟨#[.int .i64 c, .int .i64 y, undef, undef, .bool false, .bool true, .pointer (some ⟨b, 0, none⟩), undef, u8, u9, u10, u11, u12, u13, u14, u15, u16, u17, u18, u19, u20, u21, .agg #[.string ⟨#[97]⟩, .int .i64 1], u23, .int .i64 c, .agg #[.int .i64 16, .int .i64 5, .int .i64 0, .int .i64 0, .int .i64 c, .string ⟨#[]⟩], .agg #[.string ⟨#[]⟩, .int .i64 16, .int .i64 5, .int .i64 0, .int .i64 0, .int .i64 c, .string ⟨#[]⟩], .agg #[.int .i64 20, .int .i64 0, .int .i64 2, .int .i64 5, .int .i64 (-8), .string ⟨#[]⟩], .agg #[.string ⟨#[]⟩, .int .i64 20, .int .i64 0, .int .i64 2, .int .i64 5, .int .i64 (-8), .string ⟨#[]⟩], .agg #[.int .i64 op, .int .i64 xd, .int .i64 xa, .int .i64 xb, .int .i64 xn, .string (mk name)], .agg #[.string ⟨#[]⟩, .int .i64 op, .int .i64 xd, .int .i64 xa, .int .i64 xb, .int .i64 xn, .string (mk name)], .agg #[.int .i64 15, .int .i64 10, .int .i64 0, .int .i64 0, .int .i64 0, .string ⟨#[]⟩], .agg #[.string ⟨#[]⟩, .int .i64 15, .int .i64 10, .int .i64 0, .int .i64 0, .int .i64 0, .string ⟨#[]⟩], .agg #[.int .i64 16, .int .i64 17, .int .i64 0, .int .i64 0, .int .i64 3, .string ⟨#[]⟩], u34, .agg #[.int .i64 28, .int .i64 0, .int .i64 0, .int .i64 0, .int .i64 0, .string ⟨#[]⟩], u36, u37, u38, u39, u40, u41, u42, u43, u44, u45], []⟩ wx := by
        intro wx  hb
        rw [hF]
        refine wpAnyH_ready (rs := [1, 12, 17]) (by kernel_rfl) (by simp) ?_
        refine AllReadyH.cons rfl (fun K hK => ?_) ?_
        · go_simp
          refine hK.out _ _ (KEEP.out _ (ext_alloc hb (.cells (zeA.flatMap cellsA).toArray 37))) (fun _ => ?_)
          clear hK K
          try simp only [Act.put, List.setIfInBounds_toArray, List.set_cons_zero, List.set_cons_succ]
          exact fapp hF rfl (by kernel_rfl) rfl (H410 (wx.alloc (.cells (zeA.flatMap cellsA).toArray 37)) wx.heap.size (ext_alloc hb (.cells (zeA.flatMap cellsA).toArray 37)) (heap_new wx (.cells (zeA.flatMap cellsA).toArray 37)))
        refine AllReadyH.cons rfl (fun K hK => ?_) ?_
        · go_simp
          refine (line_any _ _ _ _ _ _ _).mono ?_; rintro e v ⟨rfl, g⟩
          refine hK.out _ _ (KEEP.out _ (ext_trans hb g)) (fun _ => ?_)
          clear hK K
          try simp only [Act.put, List.setIfInBounds_toArray, List.set_cons_zero, List.set_cons_succ]
          exact fapp hF rfl (by kernel_rfl) rfl (H500 v (ext_trans hb g))
        refine AllReadyH.cons rfl (fun K hK => ?_) AllReadyH.nil
        go_simp
        refine hK.out _ _ (KEEP.out _ (ext_alloc hb (.cells #[.slice none 0 0, .slice none 0 0] 27))) (fun _ => ?_)
        clear hK K
        try simp only [Act.put, List.setIfInBounds_toArray, List.set_cons_zero, List.set_cons_succ]
        exact fapp hF rfl (by kernel_rfl) rfl (H401 (wx.alloc (.cells #[.slice none 0 0, .slice none 0 0] 27)) wx.heap.size (ext_alloc hb (.cells #[.slice none 0 0, .slice none 0 0] 27)) (heap_new wx (.cells #[.slice none 0 0, .slice none 0 0] 27)) hb.size)
      have H311 : ∀ (wx : World) (A C : Nat) (hb : Below wc.heap.size wc wx) (hA : wx.heap[A]? = some (.cells (zeA.flatMap cellsA).toArray 37 (0, 0))) (hC : wx.heap[C]? = some (.cells #[.slice none 0 0, .slice none 0 0] 27 (0, 0))) (hw : wc.heap.size ≤ C) (hca : A ≠ C), F 6 #[true, true, true, true, true, true, true, true, true, true, false, true, false, true, false, false, false, true, false] ⟨#[.int .i64 c, .int .i64 y, undef, undef, .bool false, .bool true, .pointer (some ⟨b, 0, none⟩), .pointer (some ⟨C, 0, none⟩), u8, u9, u10, u11, u12, u13, u14, u15, u16, u17, u18, u19, u20, u21, .agg #[.string ⟨#[97]⟩, .int .i64 1], .slice (some ⟨A, 0, none⟩) 1 1, .int .i64 c, .agg #[.int .i64 16, .int .i64 5, .int .i64 0, .int .i64 0, .int .i64 c, .string ⟨#[]⟩], .agg #[.string ⟨#[]⟩, .int .i64 16, .int .i64 5, .int .i64 0, .int .i64 0, .int .i64 c, .string ⟨#[]⟩], .agg #[.int .i64 20, .int .i64 0, .int .i64 2, .int .i64 5, .int .i64 (-8), .string ⟨#[]⟩], .agg #[.string ⟨#[]⟩, .int .i64 20, .int .i64 0, .int .i64 2, .int .i64 5, .int .i64 (-8), .string ⟨#[]⟩], .agg #[.int .i64 op, .int .i64 xd, .int .i64 xa, .int .i64 xb, .int .i64 xn, .string (mk name)], .agg #[.string ⟨#[]⟩, .int .i64 op, .int .i64 xd, .int .i64 xa, .int .i64 xb, .int .i64 xn, .string (mk name)], .agg #[.int .i64 15, .int .i64 10, .int .i64 0, .int .i64 0, .int .i64 0, .string ⟨#[]⟩], u32, .agg #[.int .i64 16, .int .i64 17, .int .i64 0, .int .i64 0, .int .i64 3, .string ⟨#[]⟩], u34, .agg #[.int .i64 28, .int .i64 0, .int .i64 0, .int .i64 0, .int .i64 0, .string ⟨#[]⟩], u36, u37, u38, u39, u40, u41, u42, u43, u44, u45], []⟩ wx := by
        intro wx A C hb hA hC hw hca
        rw [hF]
        refine wpAnyH_ready (rs := [10]) (by kernel_rfl) (by simp) ?_
        refine AllReadyH.cons rfl (fun K hK => ?_) AllReadyH.nil
        go_simp
        refine (line_any _ _ _ _ _ _ _).mono ?_; rintro e v ⟨rfl, g⟩
        refine hK.out _ _ (KEEP.out _ (ext_trans hb g)) (fun _ => ?_)
        clear hK K
        try simp only [Act.put, List.setIfInBounds_toArray, List.set_cons_zero, List.set_cons_succ]
        exact fapp hF rfl (by kernel_rfl) rfl (H411 v A C (ext_trans hb g) ((g.block _ (Array.getElem?_eq_some_iff.1 hA).1).trans hA) ((g.block _ (Array.getElem?_eq_some_iff.1 hC).1).trans hC) hw hca)
      have H310 : ∀ (wx : World) (A : Nat) (hb : Below wc.heap.size wc wx) (hA : wx.heap[A]? = some (.cells (zeA.flatMap cellsA).toArray 37 (0, 0))), F 7 #[true, true, true, true, true, true, true, true, true, true, false, true, false, true, false, false, false, false, false] ⟨#[.int .i64 c, .int .i64 y, undef, undef, .bool false, .bool true, .pointer (some ⟨b, 0, none⟩), undef, u8, u9, u10, u11, u12, u13, u14, u15, u16, u17, u18, u19, u20, u21, .agg #[.string ⟨#[97]⟩, .int .i64 1], .slice (some ⟨A, 0, none⟩) 1 1, .int .i64 c, .agg #[.int .i64 16, .int .i64 5, .int .i64 0, .int .i64 0, .int .i64 c, .string ⟨#[]⟩], .agg #[.string ⟨#[]⟩, .int .i64 16, .int .i64 5, .int .i64 0, .int .i64 0, .int .i64 c, .string ⟨#[]⟩], .agg #[.int .i64 20, .int .i64 0, .int .i64 2, .int .i64 5, .int .i64 (-8), .string ⟨#[]⟩], .agg #[.string ⟨#[]⟩, .int .i64 20, .int .i64 0, .int .i64 2, .int .i64 5, .int .i64 (-8), .string ⟨#[]⟩], .agg #[.int .i64 op, .int .i64 xd, .int .i64 xa, .int .i64 xb, .int .i64 xn, .string (mk name)], .agg #[.string ⟨#[]⟩, .int .i64 op, .int .i64 xd, .int .i64 xa, .int .i64 xb, .int .i64 xn, .string (mk name)], .agg #[.int .i64 15, .int .i64 10, .int .i64 0, .int .i64 0, .int .i64 0, .string ⟨#[]⟩], u32, .agg #[.int .i64 16, .int .i64 17, .int .i64 0, .int .i64 0, .int .i64 3, .string ⟨#[]⟩], u34, .agg #[.int .i64 28, .int .i64 0, .int .i64 0, .int .i64 0, .int .i64 0, .string ⟨#[]⟩], u36, u37, u38, u39, u40, u41, u42, u43, u44, u45], []⟩ wx := by
        intro wx A hb hA
        rw [hF]
        refine wpAnyH_ready (rs := [10, 17]) (by kernel_rfl) (by simp) ?_
        refine AllReadyH.cons rfl (fun K hK => ?_) ?_
        · go_simp
          refine (line_any _ _ _ _ _ _ _).mono ?_; rintro e v ⟨rfl, g⟩
          refine hK.out _ _ (KEEP.out _ (ext_trans hb g)) (fun _ => ?_)
          clear hK K
          try simp only [Act.put, List.setIfInBounds_toArray, List.set_cons_zero, List.set_cons_succ]
          exact fapp hF rfl (by kernel_rfl) rfl (H410 v A (ext_trans hb g) ((g.block _ (Array.getElem?_eq_some_iff.1 hA).1).trans hA))
        refine AllReadyH.cons rfl (fun K hK => ?_) AllReadyH.nil
        go_simp
        refine hK.out _ _ (KEEP.out _ (ext_alloc hb (.cells #[.slice none 0 0, .slice none 0 0] 27))) (fun _ => ?_)
        clear hK K
        try simp only [Act.put, List.setIfInBounds_toArray, List.set_cons_zero, List.set_cons_succ]
        exact fapp hF rfl (by kernel_rfl) rfl (H311 (wx.alloc (.cells #[.slice none 0 0, .slice none 0 0] 27)) A wx.heap.size (ext_alloc hb (.cells #[.slice none 0 0, .slice none 0 0] 27)) ((Lib.alloc_old _ _ _ (Array.getElem?_eq_some_iff.1 hA).1).trans hA) (heap_new wx (.cells #[.slice none 0 0, .slice none 0 0] 27)) hb.size (Nat.ne_of_lt (Array.getElem?_eq_some_iff.1 hA).1))
      have H301 : ∀ (wx : World) (C : Nat) (hb : Below wc.heap.size wc wx) (hC : wx.heap[C]? = some (.cells #[.slice none 0 0, .slice none 0 0] 27 (0, 0))) (hw : wc.heap.size ≤ C), F 7 #[true, false, true, true, true, true, true, true, true, true, false, true, false, true, false, false, false, true, false] ⟨#[.int .i64 c, .int .i64 y, undef, undef, .bool false, .bool true, .pointer (some ⟨b, 0, none⟩), .pointer (some ⟨C, 0, none⟩), u8, u9, u10, u11, u12, u13, u14, u15, u16, u17, u18, u19, u20, u21, .agg #[.string ⟨#[97]⟩, .int .i64 1], u23, .int .i64 c, .agg #[.int .i64 16, .int .i64 5, .int .i64 0, .int .i64 0, .int .i64 c, .string ⟨#[]⟩], .agg #[.string ⟨#[]⟩, .int .i64 16, .int .i64 5, .int .i64 0, .int .i64 0, .int .i64 c, .string ⟨#[]⟩], .agg #[.int .i64 20, .int .i64 0, .int .i64 2, .int .i64 5, .int .i64 (-8), .string ⟨#[]⟩], .agg #[.string ⟨#[]⟩, .int .i64 20, .int .i64 0, .int .i64 2, .int .i64 5, .int .i64 (-8), .string ⟨#[]⟩], .agg #[.int .i64 op, .int .i64 xd, .int .i64 xa, .int .i64 xb, .int .i64 xn, .string (mk name)], .agg #[.string ⟨#[]⟩, .int .i64 op, .int .i64 xd, .int .i64 xa, .int .i64 xb, .int .i64 xn, .string (mk name)], .agg #[.int .i64 15, .int .i64 10, .int .i64 0, .int .i64 0, .int .i64 0, .string ⟨#[]⟩], u32, .agg #[.int .i64 16, .int .i64 17, .int .i64 0, .int .i64 0, .int .i64 3, .string ⟨#[]⟩], u34, .agg #[.int .i64 28, .int .i64 0, .int .i64 0, .int .i64 0, .int .i64 0, .string ⟨#[]⟩], u36, u37, u38, u39, u40, u41, u42, u43, u44, u45], []⟩ wx := by
        intro wx C hb hC hw
        rw [hF]
        refine wpAnyH_ready (rs := [1, 10]) (by kernel_rfl) (by simp) ?_
        refine AllReadyH.cons rfl (fun K hK => ?_) ?_
        · go_simp
          refine hK.out _ _ (KEEP.out _ (ext_alloc hb (.cells (zeA.flatMap cellsA).toArray 37))) (fun _ => ?_)
          clear hK K
          try simp only [Act.put, List.setIfInBounds_toArray, List.set_cons_zero, List.set_cons_succ]
          exact fapp hF rfl (by kernel_rfl) rfl (H311 (wx.alloc (.cells (zeA.flatMap cellsA).toArray 37)) wx.heap.size C (ext_alloc hb (.cells (zeA.flatMap cellsA).toArray 37)) (heap_new wx (.cells (zeA.flatMap cellsA).toArray 37)) ((Lib.alloc_old _ _ _ (Array.getElem?_eq_some_iff.1 hC).1).trans hC) hw (Nat.ne_of_gt (Array.getElem?_eq_some_iff.1 hC).1))
        refine AllReadyH.cons rfl (fun K hK => ?_) AllReadyH.nil
        go_simp
        refine (line_any _ _ _ _ _ _ _).mono ?_; rintro e v ⟨rfl, g⟩
        refine hK.out _ _ (KEEP.out _ (ext_trans hb g)) (fun _ => ?_)
        clear hK K
        try simp only [Act.put, List.setIfInBounds_toArray, List.set_cons_zero, List.set_cons_succ]
        exact fapp hF rfl (by kernel_rfl) rfl (H401 v C (ext_trans hb g) ((g.block _ (Array.getElem?_eq_some_iff.1 hC).1).trans hC) hw)
      have H300 : ∀ (wx : World) (hb : Below wc.heap.size wc wx), F 8 #[true, false, true, true, true, true, true, true, true, true, false, true, false, true, false, false, false, false, false] ⟨#[.int .i64 c, .int .i64 y, undef, undef, .bool false, .bool true, .pointer (some ⟨b, 0, none⟩), undef, u8, u9, u10, u11, u12, u13, u14, u15, u16, u17, u18, u19, u20, u21, .agg #[.string ⟨#[97]⟩, .int .i64 1], u23, .int .i64 c, .agg #[.int .i64 16, .int .i64 5, .int .i64 0, .int .i64 0, .int .i64 c, .string ⟨#[]⟩], .agg #[.string ⟨#[]⟩, .int .i64 16, .int .i64 5, .int .i64 0, .int .i64 0, .int .i64 c, .string ⟨#[]⟩], .agg #[.int .i64 20, .int .i64 0, .int .i64 2, .int .i64 5, .int .i64 (-8), .string ⟨#[]⟩], .agg #[.string ⟨#[]⟩, .int .i64 20, .int .i64 0, .int .i64 2, .int .i64 5, .int .i64 (-8), .string ⟨#[]⟩], .agg #[.int .i64 op, .int .i64 xd, .int .i64 xa, .int .i64 xb, .int .i64 xn, .string (mk name)], .agg #[.string ⟨#[]⟩, .int .i64 op, .int .i64 xd, .int .i64 xa, .int .i64 xb, .int .i64 xn, .string (mk name)], .agg #[.int .i64 15, .int .i64 10, .int .i64 0, .int .i64 0, .int .i64 0, .string ⟨#[]⟩], u32, .agg #[.int .i64 16, .int .i64 17, .int .i64 0, .int .i64 0, .int .i64 3, .string ⟨#[]⟩], u34, .agg #[.int .i64 28, .int .i64 0, .int .i64 0, .int .i64 0, .int .i64 0, .string ⟨#[]⟩], u36, u37, u38, u39, u40, u41, u42, u43, u44, u45], []⟩ wx := by
        intro wx  hb
        rw [hF]
        refine wpAnyH_ready (rs := [1, 10, 17]) (by kernel_rfl) (by simp) ?_
        refine AllReadyH.cons rfl (fun K hK => ?_) ?_
        · go_simp
          refine hK.out _ _ (KEEP.out _ (ext_alloc hb (.cells (zeA.flatMap cellsA).toArray 37))) (fun _ => ?_)
          clear hK K
          try simp only [Act.put, List.setIfInBounds_toArray, List.set_cons_zero, List.set_cons_succ]
          exact fapp hF rfl (by kernel_rfl) rfl (H310 (wx.alloc (.cells (zeA.flatMap cellsA).toArray 37)) wx.heap.size (ext_alloc hb (.cells (zeA.flatMap cellsA).toArray 37)) (heap_new wx (.cells (zeA.flatMap cellsA).toArray 37)))
        refine AllReadyH.cons rfl (fun K hK => ?_) ?_
        · go_simp
          refine (line_any _ _ _ _ _ _ _).mono ?_; rintro e v ⟨rfl, g⟩
          refine hK.out _ _ (KEEP.out _ (ext_trans hb g)) (fun _ => ?_)
          clear hK K
          try simp only [Act.put, List.setIfInBounds_toArray, List.set_cons_zero, List.set_cons_succ]
          exact fapp hF rfl (by kernel_rfl) rfl (H400 v (ext_trans hb g))
        refine AllReadyH.cons rfl (fun K hK => ?_) AllReadyH.nil
        go_simp
        refine hK.out _ _ (KEEP.out _ (ext_alloc hb (.cells #[.slice none 0 0, .slice none 0 0] 27))) (fun _ => ?_)
        clear hK K
        try simp only [Act.put, List.setIfInBounds_toArray, List.set_cons_zero, List.set_cons_succ]
        exact fapp hF rfl (by kernel_rfl) rfl (H301 (wx.alloc (.cells #[.slice none 0 0, .slice none 0 0] 27)) wx.heap.size (ext_alloc hb (.cells #[.slice none 0 0, .slice none 0 0] 27)) (heap_new wx (.cells #[.slice none 0 0, .slice none 0 0] 27)) hb.size)
      have H211 : ∀ (wx : World) (A C : Nat) (hb : Below wc.heap.size wc wx) (hA : wx.heap[A]? = some (.cells (zeA.flatMap cellsA).toArray 37 (0, 0))) (hC : wx.heap[C]? = some (.cells #[.slice none 0 0, .slice none 0 0] 27 (0, 0))) (hw : wc.heap.size ≤ C) (hca : A ≠ C), F 7 #[true, true, true, true, true, true, true, true, false, true, false, true, false, true, false, false, false, true, false] ⟨#[.int .i64 c, .int .i64 y, undef, undef, .bool false, .bool true, .pointer (some ⟨b, 0, none⟩), .pointer (some ⟨C, 0, none⟩), u8, u9, u10, u11, u12, u13, u14, u15, u16, u17, u18, u19, u20, u21, .agg #[.string ⟨#[97]⟩, .int .i64 1], .slice (some ⟨A, 0, none⟩) 1 1, .int .i64 c, .agg #[.int .i64 16, .int .i64 5, .int .i64 0, .int .i64 0, .int .i64 c, .string ⟨#[]⟩], .agg #[.string ⟨#[]⟩, .int .i64 16, .int .i64 5, .int .i64 0, .int .i64 0, .int .i64 c, .string ⟨#[]⟩], .agg #[.int .i64 20, .int .i64 0, .int .i64 2, .int .i64 5, .int .i64 (-8), .string ⟨#[]⟩], .agg #[.string ⟨#[]⟩, .int .i64 20, .int .i64 0, .int .i64 2, .int .i64 5, .int .i64 (-8), .string ⟨#[]⟩], .agg #[.int .i64 op, .int .i64 xd, .int .i64 xa, .int .i64 xb, .int .i64 xn, .string (mk name)], u30, .agg #[.int .i64 15, .int .i64 10, .int .i64 0, .int .i64 0, .int .i64 0, .string ⟨#[]⟩], u32, .agg #[.int .i64 16, .int .i64 17, .int .i64 0, .int .i64 0, .int .i64 3, .string ⟨#[]⟩], u34, .agg #[.int .i64 28, .int .i64 0, .int .i64 0, .int .i64 0, .int .i64 0, .string ⟨#[]⟩], u36, u37, u38, u39, u40, u41, u42, u43, u44, u45], []⟩ wx := by
        intro wx A C hb hA hC hw hca
        rw [hF]
        refine wpAnyH_ready (rs := [8]) (by kernel_rfl) (by simp) ?_
        refine AllReadyH.cons rfl (fun K hK => ?_) AllReadyH.nil
        go_simp
        refine (line_any _ _ _ _ _ _ _).mono ?_; rintro e v ⟨rfl, g⟩
        refine hK.out _ _ (KEEP.out _ (ext_trans hb g)) (fun _ => ?_)
        clear hK K
        try simp only [Act.put, List.setIfInBounds_toArray, List.set_cons_zero, List.set_cons_succ]
        exact fapp hF rfl (by kernel_rfl) rfl (H311 v A C (ext_trans hb g) ((g.block _ (Array.getElem?_eq_some_iff.1 hA).1).trans hA) ((g.block _ (Array.getElem?_eq_some_iff.1 hC).1).trans hC) hw hca)
      have H210 : ∀ (wx : World) (A : Nat) (hb : Below wc.heap.size wc wx) (hA : wx.heap[A]? = some (.cells (zeA.flatMap cellsA).toArray 37 (0, 0))), F 8 #[true, true, true, true, true, true, true, true, false, true, false, true, false, true, false, false, false, false, false] ⟨#[.int .i64 c, .int .i64 y, undef, undef, .bool false, .bool true, .pointer (some ⟨b, 0, none⟩), undef, u8, u9, u10, u11, u12, u13, u14, u15, u16, u17, u18, u19, u20, u21, .agg #[.string ⟨#[97]⟩, .int .i64 1], .slice (some ⟨A, 0, none⟩) 1 1, .int .i64 c, .agg #[.int .i64 16, .int .i64 5, .int .i64 0, .int .i64 0, .int .i64 c, .string ⟨#[]⟩], .agg #[.string ⟨#[]⟩, .int .i64 16, .int .i64 5, .int .i64 0, .int .i64 0, .int .i64 c, .string ⟨#[]⟩], .agg #[.int .i64 20, .int .i64 0, .int .i64 2, .int .i64 5, .int .i64 (-8), .string ⟨#[]⟩], .agg #[.string ⟨#[]⟩, .int .i64 20, .int .i64 0, .int .i64 2, .int .i64 5, .int .i64 (-8), .string ⟨#[]⟩], .agg #[.int .i64 op, .int .i64 xd, .int .i64 xa, .int .i64 xb, .int .i64 xn, .string (mk name)], u30, .agg #[.int .i64 15, .int .i64 10, .int .i64 0, .int .i64 0, .int .i64 0, .string ⟨#[]⟩], u32, .agg #[.int .i64 16, .int .i64 17, .int .i64 0, .int .i64 0, .int .i64 3, .string ⟨#[]⟩], u34, .agg #[.int .i64 28, .int .i64 0, .int .i64 0, .int .i64 0, .int .i64 0, .string ⟨#[]⟩], u36, u37, u38, u39, u40, u41, u42, u43, u44, u45], []⟩ wx := by
        intro wx A hb hA
        rw [hF]
        refine wpAnyH_ready (rs := [8, 17]) (by kernel_rfl) (by simp) ?_
        refine AllReadyH.cons rfl (fun K hK => ?_) ?_
        · go_simp
          refine (line_any _ _ _ _ _ _ _).mono ?_; rintro e v ⟨rfl, g⟩
          refine hK.out _ _ (KEEP.out _ (ext_trans hb g)) (fun _ => ?_)
          clear hK K
          try simp only [Act.put, List.setIfInBounds_toArray, List.set_cons_zero, List.set_cons_succ]
          exact fapp hF rfl (by kernel_rfl) rfl (H310 v A (ext_trans hb g) ((g.block _ (Array.getElem?_eq_some_iff.1 hA).1).trans hA))
        refine AllReadyH.cons rfl (fun K hK => ?_) AllReadyH.nil
        go_simp
        refine hK.out _ _ (KEEP.out _ (ext_alloc hb (.cells #[.slice none 0 0, .slice none 0 0] 27))) (fun _ => ?_)
        clear hK K
        try simp only [Act.put, List.setIfInBounds_toArray, List.set_cons_zero, List.set_cons_succ]
        exact fapp hF rfl (by kernel_rfl) rfl (H211 (wx.alloc (.cells #[.slice none 0 0, .slice none 0 0] 27)) A wx.heap.size (ext_alloc hb (.cells #[.slice none 0 0, .slice none 0 0] 27)) ((Lib.alloc_old _ _ _ (Array.getElem?_eq_some_iff.1 hA).1).trans hA) (heap_new wx (.cells #[.slice none 0 0, .slice none 0 0] 27)) hb.size (Nat.ne_of_lt (Array.getElem?_eq_some_iff.1 hA).1))
      have H201 : ∀ (wx : World) (C : Nat) (hb : Below wc.heap.size wc wx) (hC : wx.heap[C]? = some (.cells #[.slice none 0 0, .slice none 0 0] 27 (0, 0))) (hw : wc.heap.size ≤ C), F 8 #[true, false, true, true, true, true, true, true, false, true, false, true, false, true, false, false, false, true, false] ⟨#[.int .i64 c, .int .i64 y, undef, undef, .bool false, .bool true, .pointer (some ⟨b, 0, none⟩), .pointer (some ⟨C, 0, none⟩), u8, u9, u10, u11, u12, u13, u14, u15, u16, u17, u18, u19, u20, u21, .agg #[.string ⟨#[97]⟩, .int .i64 1], u23, .int .i64 c, .agg #[.int .i64 16, .int .i64 5, .int .i64 0, .int .i64 0, .int .i64 c, .string ⟨#[]⟩], .agg #[.string ⟨#[]⟩, .int .i64 16, .int .i64 5, .int .i64 0, .int .i64 0, .int .i64 c, .string ⟨#[]⟩], .agg #[.int .i64 20, .int .i64 0, .int .i64 2, .int .i64 5, .int .i64 (-8), .string ⟨#[]⟩], .agg #[.string ⟨#[]⟩, .int .i64 20, .int .i64 0, .int .i64 2, .int .i64 5, .int .i64 (-8), .string ⟨#[]⟩], .agg #[.int .i64 op, .int .i64 xd, .int .i64 xa, .int .i64 xb, .int .i64 xn, .string (mk name)], u30, .agg #[.int .i64 15, .int .i64 10, .int .i64 0, .int .i64 0, .int .i64 0, .string ⟨#[]⟩], u32, .agg #[.int .i64 16, .int .i64 17, .int .i64 0, .int .i64 0, .int .i64 3, .string ⟨#[]⟩], u34, .agg #[.int .i64 28, .int .i64 0, .int .i64 0, .int .i64 0, .int .i64 0, .string ⟨#[]⟩], u36, u37, u38, u39, u40, u41, u42, u43, u44, u45], []⟩ wx := by
        intro wx C hb hC hw
        rw [hF]
        refine wpAnyH_ready (rs := [1, 8]) (by kernel_rfl) (by simp) ?_
        refine AllReadyH.cons rfl (fun K hK => ?_) ?_
        · go_simp
          refine hK.out _ _ (KEEP.out _ (ext_alloc hb (.cells (zeA.flatMap cellsA).toArray 37))) (fun _ => ?_)
          clear hK K
          try simp only [Act.put, List.setIfInBounds_toArray, List.set_cons_zero, List.set_cons_succ]
          exact fapp hF rfl (by kernel_rfl) rfl (H211 (wx.alloc (.cells (zeA.flatMap cellsA).toArray 37)) wx.heap.size C (ext_alloc hb (.cells (zeA.flatMap cellsA).toArray 37)) (heap_new wx (.cells (zeA.flatMap cellsA).toArray 37)) ((Lib.alloc_old _ _ _ (Array.getElem?_eq_some_iff.1 hC).1).trans hC) hw (Nat.ne_of_gt (Array.getElem?_eq_some_iff.1 hC).1))
        refine AllReadyH.cons rfl (fun K hK => ?_) AllReadyH.nil
        go_simp
        refine (line_any _ _ _ _ _ _ _).mono ?_; rintro e v ⟨rfl, g⟩
        refine hK.out _ _ (KEEP.out _ (ext_trans hb g)) (fun _ => ?_)
        clear hK K
        try simp only [Act.put, List.setIfInBounds_toArray, List.set_cons_zero, List.set_cons_succ]
        exact fapp hF rfl (by kernel_rfl) rfl (H301 v C (ext_trans hb g) ((g.block _ (Array.getElem?_eq_some_iff.1 hC).1).trans hC) hw)
      have H200 : ∀ (wx : World) (hb : Below wc.heap.size wc wx), F 9 #[true, false, true, true, true, true, true, true, false, true, false, true, false, true, false, false, false, false, false] ⟨#[.int .i64 c, .int .i64 y, undef, undef, .bool false, .bool true, .pointer (some ⟨b, 0, none⟩), undef, u8, u9, u10, u11, u12, u13, u14, u15, u16, u17, u18, u19, u20, u21, .agg #[.string ⟨#[97]⟩, .int .i64 1], u23, .int .i64 c, .agg #[.int .i64 16, .int .i64 5, .int .i64 0, .int .i64 0, .int .i64 c, .string ⟨#[]⟩], .agg #[.string ⟨#[]⟩, .int .i64 16, .int .i64 5, .int .i64 0, .int .i64 0, .int .i64 c, .string ⟨#[]⟩], .agg #[.int .i64 20, .int .i64 0, .int .i64 2, .int .i64 5, .int .i64 (-8), .string ⟨#[]⟩], .agg #[.string ⟨#[]⟩, .int .i64 20, .int .i64 0, .int .i64 2, .int .i64 5, .int .i64 (-8), .string ⟨#[]⟩], .agg #[.int .i64 op, .int .i64 xd, .int .i64 xa, .int .i64 xb, .int .i64 xn, .string (mk name)], u30, .agg #[.int .i64 15, .int .i64 10, .int .i64 0, .int .i64 0, .int .i64 0, .string ⟨#[]⟩], u32, .agg #[.int .i64 16, .int .i64 17, .int .i64 0, .int .i64 0, .int .i64 3, .string ⟨#[]⟩], u34, .agg #[.int .i64 28, .int .i64 0, .int .i64 0, .int .i64 0, .int .i64 0, .string ⟨#[]⟩], u36, u37, u38, u39, u40, u41, u42, u43, u44, u45], []⟩ wx := by
        intro wx  hb
        rw [hF]
        refine wpAnyH_ready (rs := [1, 8, 17]) (by kernel_rfl) (by simp) ?_
        refine AllReadyH.cons rfl (fun K hK => ?_) ?_
        · go_simp
          refine hK.out _ _ (KEEP.out _ (ext_alloc hb (.cells (zeA.flatMap cellsA).toArray 37))) (fun _ => ?_)
          clear hK K
          try simp only [Act.put, List.setIfInBounds_toArray, List.set_cons_zero, List.set_cons_succ]
          exact fapp hF rfl (by kernel_rfl) rfl (H210 (wx.alloc (.cells (zeA.flatMap cellsA).toArray 37)) wx.heap.size (ext_alloc hb (.cells (zeA.flatMap cellsA).toArray 37)) (heap_new wx (.cells (zeA.flatMap cellsA).toArray 37)))
        refine AllReadyH.cons rfl (fun K hK => ?_) ?_
        · go_simp
          refine (line_any _ _ _ _ _ _ _).mono ?_; rintro e v ⟨rfl, g⟩
          refine hK.out _ _ (KEEP.out _ (ext_trans hb g)) (fun _ => ?_)
          clear hK K
          try simp only [Act.put, List.setIfInBounds_toArray, List.set_cons_zero, List.set_cons_succ]
          exact fapp hF rfl (by kernel_rfl) rfl (H300 v (ext_trans hb g))
        refine AllReadyH.cons rfl (fun K hK => ?_) AllReadyH.nil
        go_simp
        refine hK.out _ _ (KEEP.out _ (ext_alloc hb (.cells #[.slice none 0 0, .slice none 0 0] 27))) (fun _ => ?_)
        clear hK K
        try simp only [Act.put, List.setIfInBounds_toArray, List.set_cons_zero, List.set_cons_succ]
        exact fapp hF rfl (by kernel_rfl) rfl (H201 (wx.alloc (.cells #[.slice none 0 0, .slice none 0 0] 27)) wx.heap.size (ext_alloc hb (.cells #[.slice none 0 0, .slice none 0 0] 27)) (heap_new wx (.cells #[.slice none 0 0, .slice none 0 0] 27)) hb.size)
      have H111 : ∀ (wx : World) (A C : Nat) (hb : Below wc.heap.size wc wx) (hA : wx.heap[A]? = some (.cells (zeA.flatMap cellsA).toArray 37 (0, 0))) (hC : wx.heap[C]? = some (.cells #[.slice none 0 0, .slice none 0 0] 27 (0, 0))) (hw : wc.heap.size ≤ C) (hca : A ≠ C), F 8 #[true, true, true, true, true, true, false, true, false, true, false, true, false, true, false, false, false, true, false] ⟨#[.int .i64 c, .int .i64 y, undef, undef, .bool false, .bool true, .pointer (some ⟨b, 0, none⟩), .pointer (some ⟨C, 0, none⟩), u8, u9, u10, u11, u12, u13, u14, u15, u16, u17, u18, u19, u20, u21, .agg #[.string ⟨#[97]⟩, .int .i64 1], .slice (some ⟨A, 0, none⟩) 1 1, .int .i64 c, .agg #[.int .i64 16, .int .i64 5, .int .i64 0, .int .i64 0, .int .i64 c, .string ⟨#[]⟩], .agg #[.string ⟨#[]⟩, .int .i64 16, .int .i64 5, .int .i64 0, .int .i64 0, .int .i64 c, .string ⟨#[]⟩], .agg #[.int .i64 20, .int .i64 0, .int .i64 2, .int .i64 5, .int .i64 (-8), .string ⟨#[]⟩], u28, .agg #[.int .i64 op, .int .i64 xd, .int .i64 xa, .int .i64 xb, .int .i64 xn, .string (mk name)], u30, .agg #[.int .i64 15, .int .i64 10, .int .i64 0, .int .i64 0, .int .i64 0, .string ⟨#[]⟩], u32, .agg #[.int .i64 16, .int .i64 17, .int .i64 0, .int .i64 0, .int .i64 3, .string ⟨#[]⟩], u34, .agg #[.int .i64 28, .int .i64 0, .int .i64 0, .int .i64 0, .int .i64 0, .string ⟨#[]⟩], u36, u37, u38, u39, u40, u41, u42, u43, u44, u45], []⟩ wx := by
        intro wx A C hb hA hC hw hca
        rw [hF]
        refine wpAnyH_ready (rs := [6]) (by kernel_rfl) (by simp) ?_
        refine AllReadyH.cons rfl (fun K hK => ?_) AllReadyH.nil
        go_simp
        refine (line_any _ _ _ _ _ _ _).mono ?_; rintro e v ⟨rfl, g⟩
        refine hK.out _ _ (KEEP.out _ (ext_trans hb g)) (fun _ => ?_)
        clear hK K
        try simp only [Act.put, List.setIfInBounds_toArray, List.set_cons_zero, List.set_cons_succ]
        exact fapp hF rfl (by kernel_rfl) rfl (H211 v A C (ext_trans hb g) ((g.block _ (Array.getElem?_eq_some_iff.1 hA).1).trans hA) ((g.block _ (Array.getElem?_eq_some_iff.1 hC).1).trans hC) hw hca)
      have H110 : ∀ (wx : World) (A : Nat) (hb : Below wc.heap.size wc wx) (hA : wx.heap[A]? = some (.cells (zeA.flatMap cellsA).toArray 37 (0, 0))), F 9 #[true, true, true, true, true, true, false, true, false, true, false, true, false, true, false, false, false, false, false] ⟨#[.int .i64 c, .int .i64 y, undef, undef, .bool false, .bool true, .pointer (some ⟨b, 0, none⟩), undef, u8, u9, u10, u11, u12, u13, u14, u15, u16, u17, u18, u19, u20, u21, .agg #[.string ⟨#[97]⟩, .int .i64 1], .slice (some ⟨A, 0, none⟩) 1 1, .int .i64 c, .agg #[.int .i64 16, .int .i64 5, .int .i64 0, .int .i64 0, .int .i64 c, .string ⟨#[]⟩], .agg #[.string ⟨#[]⟩, .int .i64 16, .int .i64 5, .int .i64 0, .int .i64 0, .int .i64 c, .string ⟨#[]⟩], .agg #[.int .i64 20, .int .i64 0, .int .i64 2, .int .i64 5, .int .i64 (-8), .string ⟨#[]⟩], u28, .agg #[.int .i64 op, .int .i64 xd, .int .i64 xa, .int .i64 xb, .int .i64 xn, .string (mk name)], u30, .agg #[.int .i64 15, .int .i64 10, .int .i64 0, .int .i64 0, .int .i64 0, .string ⟨#[]⟩], u32, .agg #[.int .i64 16, .int .i64 17, .int .i64 0, .int .i64 0, .int .i64 3, .string ⟨#[]⟩], u34, .agg #[.int .i64 28, .int .i64 0, .int .i64 0, .int .i64 0, .int .i64 0, .string ⟨#[]⟩], u36, u37, u38, u39, u40, u41, u42, u43, u44, u45], []⟩ wx := by
        intro wx A hb hA
        rw [hF]
        refine wpAnyH_ready (rs := [6, 17]) (by kernel_rfl) (by simp) ?_
        refine AllReadyH.cons rfl (fun K hK => ?_) ?_
        · go_simp
          refine (line_any _ _ _ _ _ _ _).mono ?_; rintro e v ⟨rfl, g⟩
          refine hK.out _ _ (KEEP.out _ (ext_trans hb g)) (fun _ => ?_)
          clear hK K
          try simp only [Act.put, List.setIfInBounds_toArray, List.set_cons_zero, List.set_cons_succ]
          exact fapp hF rfl (by kernel_rfl) rfl (H210 v A (ext_trans hb g) ((g.block _ (Array.getElem?_eq_some_iff.1 hA).1).trans hA))
        refine AllReadyH.cons rfl (fun K hK => ?_) AllReadyH.nil
        go_simp
        refine hK.out _ _ (KEEP.out _ (ext_alloc hb (.cells #[.slice none 0 0, .slice none 0 0] 27))) (fun _ => ?_)
        clear hK K
        try simp only [Act.put, List.setIfInBounds_toArray, List.set_cons_zero, List.set_cons_succ]
        exact fapp hF rfl (by kernel_rfl) rfl (H111 (wx.alloc (.cells #[.slice none 0 0, .slice none 0 0] 27)) A wx.heap.size (ext_alloc hb (.cells #[.slice none 0 0, .slice none 0 0] 27)) ((Lib.alloc_old _ _ _ (Array.getElem?_eq_some_iff.1 hA).1).trans hA) (heap_new wx (.cells #[.slice none 0 0, .slice none 0 0] 27)) hb.size (Nat.ne_of_lt (Array.getElem?_eq_some_iff.1 hA).1))
      have H101 : ∀ (wx : World) (C : Nat) (hb : Below wc.heap.size wc wx) (hC : wx.heap[C]? = some (.cells #[.slice none 0 0, .slice none 0 0] 27 (0, 0))) (hw : wc.heap.size ≤ C), F 9 #[true, false, true, true, true, true, false, true, false, true, false, true, false, true, false, false, false, true, false] ⟨#[.int .i64 c, .int .i64 y, undef, undef, .bool false, .bool true, .pointer (some ⟨b, 0, none⟩), .pointer (some ⟨C, 0, none⟩), u8, u9, u10, u11, u12, u13, u14, u15, u16, u17, u18, u19, u20, u21, .agg #[.string ⟨#[97]⟩, .int .i64 1], u23, .int .i64 c, .agg #[.int .i64 16, .int .i64 5, .int .i64 0, .int .i64 0, .int .i64 c, .string ⟨#[]⟩], .agg #[.string ⟨#[]⟩, .int .i64 16, .int .i64 5, .int .i64 0, .int .i64 0, .int .i64 c, .string ⟨#[]⟩], .agg #[.int .i64 20, .int .i64 0, .int .i64 2, .int .i64 5, .int .i64 (-8), .string ⟨#[]⟩], u28, .agg #[.int .i64 op, .int .i64 xd, .int .i64 xa, .int .i64 xb, .int .i64 xn, .string (mk name)], u30, .agg #[.int .i64 15, .int .i64 10, .int .i64 0, .int .i64 0, .int .i64 0, .string ⟨#[]⟩], u32, .agg #[.int .i64 16, .int .i64 17, .int .i64 0, .int .i64 0, .int .i64 3, .string ⟨#[]⟩], u34, .agg #[.int .i64 28, .int .i64 0, .int .i64 0, .int .i64 0, .int .i64 0, .string ⟨#[]⟩], u36, u37, u38, u39, u40, u41, u42, u43, u44, u45], []⟩ wx := by
        intro wx C hb hC hw
        rw [hF]
        refine wpAnyH_ready (rs := [1, 6]) (by kernel_rfl) (by simp) ?_
        refine AllReadyH.cons rfl (fun K hK => ?_) ?_
        · go_simp
          refine hK.out _ _ (KEEP.out _ (ext_alloc hb (.cells (zeA.flatMap cellsA).toArray 37))) (fun _ => ?_)
          clear hK K
          try simp only [Act.put, List.setIfInBounds_toArray, List.set_cons_zero, List.set_cons_succ]
          exact fapp hF rfl (by kernel_rfl) rfl (H111 (wx.alloc (.cells (zeA.flatMap cellsA).toArray 37)) wx.heap.size C (ext_alloc hb (.cells (zeA.flatMap cellsA).toArray 37)) (heap_new wx (.cells (zeA.flatMap cellsA).toArray 37)) ((Lib.alloc_old _ _ _ (Array.getElem?_eq_some_iff.1 hC).1).trans hC) hw (Nat.ne_of_gt (Array.getElem?_eq_some_iff.1 hC).1))
        refine AllReadyH.cons rfl (fun K hK => ?_) AllReadyH.nil
        go_simp
        refine (line_any _ _ _ _ _ _ _).mono ?_; rintro e v ⟨rfl, g⟩
        refine hK.out _ _ (KEEP.out _ (ext_trans hb g)) (fun _ => ?_)
        clear hK K
        try simp only [Act.put, List.setIfInBounds_toArray, List.set_cons_zero, List.set_cons_succ]
        exact fapp hF rfl (by kernel_rfl) rfl (H201 v C (ext_trans hb g) ((g.block _ (Array.getElem?_eq_some_iff.1 hC).1).trans hC) hw)
      have H100 : ∀ (wx : World) (hb : Below wc.heap.size wc wx), F 10 #[true, false, true, true, true, true, false, true, false, true, false, true, false, true, false, false, false, false, false] ⟨#[.int .i64 c, .int .i64 y, undef, undef, .bool false, .bool true, .pointer (some ⟨b, 0, none⟩), undef, u8, u9, u10, u11, u12, u13, u14, u15, u16, u17, u18, u19, u20, u21, .agg #[.string ⟨#[97]⟩, .int .i64 1], u23, .int .i64 c, .agg #[.int .i64 16, .int .i64 5, .int .i64 0, .int .i64 0, .int .i64 c, .string ⟨#[]⟩], .agg #[.string ⟨#[]⟩, .int .i64 16, .int .i64 5, .int .i64 0, .int .i64 0, .int .i64 c, .string ⟨#[]⟩], .agg #[.int .i64 20, .int .i64 0, .int .i64 2, .int .i64 5, .int .i64 (-8), .string ⟨#[]⟩], u28, .agg #[.int .i64 op, .int .i64 xd, .int .i64 xa, .int .i64 xb, .int .i64 xn, .string (mk name)], u30, .agg #[.int .i64 15, .int .i64 10, .int .i64 0, .int .i64 0, .int .i64 0, .string ⟨#[]⟩], u32, .agg #[.int .i64 16, .int .i64 17, .int .i64 0, .int .i64 0, .int .i64 3, .string ⟨#[]⟩], u34, .agg #[.int .i64 28, .int .i64 0, .int .i64 0, .int .i64 0, .int .i64 0, .string ⟨#[]⟩], u36, u37, u38, u39, u40, u41, u42, u43, u44, u45], []⟩ wx := by
        intro wx  hb
        rw [hF]
        refine wpAnyH_ready (rs := [1, 6, 17]) (by kernel_rfl) (by simp) ?_
        refine AllReadyH.cons rfl (fun K hK => ?_) ?_
        · go_simp
          refine hK.out _ _ (KEEP.out _ (ext_alloc hb (.cells (zeA.flatMap cellsA).toArray 37))) (fun _ => ?_)
          clear hK K
          try simp only [Act.put, List.setIfInBounds_toArray, List.set_cons_zero, List.set_cons_succ]
          exact fapp hF rfl (by kernel_rfl) rfl (H110 (wx.alloc (.cells (zeA.flatMap cellsA).toArray 37)) wx.heap.size (ext_alloc hb (.cells (zeA.flatMap cellsA).toArray 37)) (heap_new wx (.cells (zeA.flatMap cellsA).toArray 37)))
        refine AllReadyH.cons rfl (fun K hK => ?_) ?_
        · go_simp
          refine (line_any _ _ _ _ _ _ _).mono ?_; rintro e v ⟨rfl, g⟩
          refine hK.out _ _ (KEEP.out _ (ext_trans hb g)) (fun _ => ?_)
          clear hK K
          try simp only [Act.put, List.setIfInBounds_toArray, List.set_cons_zero, List.set_cons_succ]
          exact fapp hF rfl (by kernel_rfl) rfl (H200 v (ext_trans hb g))
        refine AllReadyH.cons rfl (fun K hK => ?_) AllReadyH.nil
        go_simp
        refine hK.out _ _ (KEEP.out _ (ext_alloc hb (.cells #[.slice none 0 0, .slice none 0 0] 27))) (fun _ => ?_)
        clear hK K
        try simp only [Act.put, List.setIfInBounds_toArray, List.set_cons_zero, List.set_cons_succ]
        exact fapp hF rfl (by kernel_rfl) rfl (H101 (wx.alloc (.cells #[.slice none 0 0, .slice none 0 0] 27)) wx.heap.size (ext_alloc hb (.cells #[.slice none 0 0, .slice none 0 0] 27)) (heap_new wx (.cells #[.slice none 0 0, .slice none 0 0] 27)) hb.size)
      have H011 : ∀ (wx : World) (A C : Nat) (hb : Below wc.heap.size wc wx) (hA : wx.heap[A]? = some (.cells (zeA.flatMap cellsA).toArray 37 (0, 0))) (hC : wx.heap[C]? = some (.cells #[.slice none 0 0, .slice none 0 0] 27 (0, 0))) (hw : wc.heap.size ≤ C) (hca : A ≠ C), F 9 #[true, true, true, true, false, true, false, true, false, true, false, true, false, true, false, false, false, true, false] ⟨#[.int .i64 c, .int .i64 y, undef, undef, .bool false, .bool true, .pointer (some ⟨b, 0, none⟩), .pointer (some ⟨C, 0, none⟩), u8, u9, u10, u11, u12, u13, u14, u15, u16, u17, u18, u19, u20, u21, .agg #[.string ⟨#[97]⟩, .int .i64 1], .slice (some ⟨A, 0, none⟩) 1 1, .int .i64 c, .agg #[.int .i64 16, .int .i64 5, .int .i64 0, .int .i64 0, .int .i64 c, .string ⟨#[]⟩], u26, .agg #[.int .i64 20, .int .i64 0, .int .i64 2, .int .i64 5, .int .i64 (-8), .string ⟨#[]⟩], u28, .agg #[.int .i64 op, .int .i64 xd, .int .i64 xa, .int .i64 xb, .int .i64 xn, .string (mk name)], u30, .agg #[.int .i64 15, .int .i64 10, .int .i64 0, .int .i64 0, .int .i64 0, .string ⟨#[]⟩], u32, .agg #[.int .i64 16, .int .i64 17, .int .i64 0, .int .i64 0, .int .i64 3, .string ⟨#[]⟩], u34, .agg #[.int .i64 28, .int .i64 0, .int .i64 0, .int .i64 0, .int .i64 0, .string ⟨#[]⟩], u36, u37, u38, u39, u40, u41, u42, u43, u44, u45], []⟩ wx := by
        intro wx A C hb hA hC hw hca
        rw [hF]
        refine wpAnyH_ready (rs := [4]) (by kernel_rfl) (by simp) ?_
        refine AllReadyH.cons rfl (fun K hK => ?_) AllReadyH.nil
        go_simp
        refine (line_any _ _ _ _ _ _ _).mono ?_; rintro e v ⟨rfl, g⟩
        refine hK.out _ _ (KEEP.out _ (ext_trans hb g)) (fun _ => ?_)
        clear hK K
        try simp only [Act.put, List.setIfInBounds_toArray, List.set_cons_zero, List.set_cons_succ]
        exact fapp hF rfl (by kernel_rfl) rfl (H111 v A C (ext_trans hb g) ((g.block _ (Array.getElem?_eq_some_iff.1 hA).1).trans hA) ((g.block _ (Array.getElem?_eq_some_iff.1 hC).1).trans hC) hw hca)
      have H010 : ∀ (wx : World) (A : Nat) (hb : Below wc.heap.size wc wx) (hA : wx.heap[A]? = some (.cells (zeA.flatMap cellsA).toArray 37 (0, 0))), F 10 #[true, true, true, true, false, true, false, true, false, true, false, true, false, true, false, false, false, false, false] ⟨#[.int .i64 c, .int .i64 y, undef, undef, .bool false, .bool true, .pointer (some ⟨b, 0, none⟩), undef, u8, u9, u10, u11, u12, u13, u14, u15, u16, u17, u18, u19, u20, u21, .agg #[.string ⟨#[97]⟩, .int .i64 1], .slice (some ⟨A, 0, none⟩) 1 1, .int .i64 c, .agg #[.int .i64 16, .int .i64 5, .int .i64 0, .int .i64 0, .int .i64 c, .string ⟨#[]⟩], u26, .agg #[.int .i64 20, .int .i64 0, .int .i64 2, .int .i64 5, .int .i64 (-8), .string ⟨#[]⟩], u28, .agg #[.int .i64 op, .int .i64 xd, .int .i64 xa, .int .i64 xb, .int .i64 xn, .string (mk name)], u30, .agg #[.int .i64 15, .int .i64 10, .int .i64 0, .int .i64 0, .int .i64 0, .string ⟨#[]⟩], u32, .agg #[.int .i64 16, .int .i64 17, .int .i64 0, .int .i64 0, .int .i64 3, .string ⟨#[]⟩], u34, .agg #[.int .i64 28, .int .i64 0, .int .i64 0, .int .i64 0, .int .i64 0, .string ⟨#[]⟩], u36, u37, u38, u39, u40, u41, u42, u43, u44, u45], []⟩ wx := by
        intro wx A hb hA
        rw [hF]
        refine wpAnyH_ready (rs := [4, 17]) (by kernel_rfl) (by simp) ?_
        refine AllReadyH.cons rfl (fun K hK => ?_) ?_
        · go_simp
          refine (line_any _ _ _ _ _ _ _).mono ?_; rintro e v ⟨rfl, g⟩
          refine hK.out _ _ (KEEP.out _ (ext_trans hb g)) (fun _ => ?_)
          clear hK K
          try simp only [Act.put, List.setIfInBounds_toArray, List.set_cons_zero, List.set_cons_succ]
          exact fapp hF rfl (by kernel_rfl) rfl (H110 v A (ext_trans hb g) ((g.block _ (Array.getElem?_eq_some_iff.1 hA).1).trans hA))
        refine AllReadyH.cons rfl (fun K hK => ?_) AllReadyH.nil
        go_simp
        refine hK.out _ _ (KEEP.out _ (ext_alloc hb (.cells #[.slice none 0 0, .slice none 0 0] 27))) (fun _ => ?_)
        clear hK K
        try simp only [Act.put, List.setIfInBounds_toArray, List.set_cons_zero, List.set_cons_succ]
        exact fapp hF rfl (by kernel_rfl) rfl (H011 (wx.alloc (.cells #[.slice none 0 0, .slice none 0 0] 27)) A wx.heap.size (ext_alloc hb (.cells #[.slice none 0 0, .slice none 0 0] 27)) ((Lib.alloc_old _ _ _ (Array.getElem?_eq_some_iff.1 hA).1).trans hA) (heap_new wx (.cells #[.slice none 0 0, .slice none 0 0] 27)) hb.size (Nat.ne_of_lt (Array.getElem?_eq_some_iff.1 hA).1))
      have H001 : ∀ (wx : World) (C : Nat) (hb : Below wc.heap.size wc wx) (hC : wx.heap[C]? = some (.cells #[.slice none 0 0, .slice none 0 0] 27 (0, 0))) (hw : wc.heap.size ≤ C), F 10 #[true, false, true, true, false, true, false, true, false, true, false, true, false, true, false, false, false, true, false] ⟨#[.int .i64 c, .int .i64 y, undef, undef, .bool false, .bool true, .pointer (some ⟨b, 0, none⟩), .pointer (some ⟨C, 0, none⟩), u8, u9, u10, u11, u12, u13, u14, u15, u16, u17, u18, u19, u20, u21, .agg #[.string ⟨#[97]⟩, .int .i64 1], u23, .int .i64 c, .agg #[.int .i64 16, .int .i64 5, .int .i64 0, .int .i64 0, .int .i64 c, .string ⟨#[]⟩], u26, .agg #[.int .i64 20, .int .i64 0, .int .i64 2, .int .i64 5, .int .i64 (-8), .string ⟨#[]⟩], u28, .agg #[.int .i64 op, .int .i64 xd, .int .i64 xa, .int .i64 xb, .int .i64 xn, .string (mk name)], u30, .agg #[.int .i64 15, .int .i64 10, .int .i64 0, .int .i64 0, .int .i64 0, .string ⟨#[]⟩], u32, .agg #[.int .i64 16, .int .i64 17, .int .i64 0, .int .i64 0, .int .i64 3, .string ⟨#[]⟩], u34, .agg #[.int .i64 28, .int .i64 0, .int .i64 0, .int .i64 0, .int .i64 0, .string ⟨#[]⟩], u36, u37, u38, u39, u40, u41, u42, u43, u44, u45], []⟩ wx := by
        intro wx C hb hC hw
        rw [hF]
        refine wpAnyH_ready (rs := [1, 4]) (by kernel_rfl) (by simp) ?_
        refine AllReadyH.cons rfl (fun K hK => ?_) ?_
        · go_simp
          refine hK.out _ _ (KEEP.out _ (ext_alloc hb (.cells (zeA.flatMap cellsA).toArray 37))) (fun _ => ?_)
          clear hK K
          try simp only [Act.put, List.setIfInBounds_toArray, List.set_cons_zero, List.set_cons_succ]
          exact fapp hF rfl (by kernel_rfl) rfl (H011 (wx.alloc (.cells (zeA.flatMap cellsA).toArray 37)) wx.heap.size C (ext_alloc hb (.cells (zeA.flatMap cellsA).toArray 37)) (heap_new wx (.cells (zeA.flatMap cellsA).toArray 37)) ((Lib.alloc_old _ _ _ (Array.getElem?_eq_some_iff.1 hC).1).trans hC) hw (Nat.ne_of_gt (Array.getElem?_eq_some_iff.1 hC).1))
        refine AllReadyH.cons rfl (fun K hK => ?_) AllReadyH.nil
        go_simp
        refine (line_any _ _ _ _ _ _ _).mono ?_; rintro e v ⟨rfl, g⟩
        refine hK.out _ _ (KEEP.out _ (ext_trans hb g)) (fun _ => ?_)
        clear hK K
        try simp only [Act.put, List.setIfInBounds_toArray, List.set_cons_zero, List.set_cons_succ]
        exact fapp hF rfl (by kernel_rfl) rfl (H101 v C (ext_trans hb g) ((g.block _ (Array.getElem?_eq_some_iff.1 hC).1).trans hC) hw)
      have H000 : ∀ (wx : World) (hb : Below wc.heap.size wc wx), F 11 #[true, false, true, true, false, true, false, true, false, true, false, true, false, true, false, false, false, false, false] ⟨#[.int .i64 c, .int .i64 y, undef, undef, .bool false, .bool true, .pointer (some ⟨b, 0, none⟩), undef, u8, u9, u10, u11, u12, u13, u14, u15, u16, u17, u18, u19, u20, u21, .agg #[.string ⟨#[97]⟩, .int .i64 1], u23, .int .i64 c, .agg #[.int .i64 16, .int .i64 5, .int .i64 0, .int .i64 0, .int .i64 c, .string ⟨#[]⟩], u26, .agg #[.int .i64 20, .int .i64 0, .int .i64 2, .int .i64 5, .int .i64 (-8), .string ⟨#[]⟩], u28, .agg #[.int .i64 op, .int .i64 xd, .int .i64 xa, .int .i64 xb, .int .i64 xn, .string (mk name)], u30, .agg #[.int .i64 15, .int .i64 10, .int .i64 0, .int .i64 0, .int .i64 0, .string ⟨#[]⟩], u32, .agg #[.int .i64 16, .int .i64 17, .int .i64 0, .int .i64 0, .int .i64 3, .string ⟨#[]⟩], u34, .agg #[.int .i64 28, .int .i64 0, .int .i64 0, .int .i64 0, .int .i64 0, .string ⟨#[]⟩], u36, u37, u38, u39, u40, u41, u42, u43, u44, u45], []⟩ wx := by
        intro wx  hb
        rw [hF]
        refine wpAnyH_ready (rs := [1, 4, 17]) (by kernel_rfl) (by simp) ?_
        refine AllReadyH.cons rfl (fun K hK => ?_) ?_
        · go_simp
          refine hK.out _ _ (KEEP.out _ (ext_alloc hb (.cells (zeA.flatMap cellsA).toArray 37))) (fun _ => ?_)
          clear hK K
          try simp only [Act.put, List.setIfInBounds_toArray, List.set_cons_zero, List.set_cons_succ]
          exact fapp hF rfl (by kernel_rfl) rfl (H010 (wx.alloc (.cells (zeA.flatMap cellsA).toArray 37)) wx.heap.size (ext_alloc hb (.cells (zeA.flatMap cellsA).toArray 37)) (heap_new wx (.cells (zeA.flatMap cellsA).toArray 37)))
        refine AllReadyH.cons rfl (fun K hK => ?_) ?_
        · go_simp
          refine (line_any _ _ _ _ _ _ _).mono ?_; rintro e v ⟨rfl, g⟩
          refine hK.out _ _ (KEEP.out _ (ext_trans hb g)) (fun _ => ?_)
          clear hK K
          try simp only [Act.put, List.setIfInBounds_toArray, List.set_cons_zero, List.set_cons_succ]
          exact fapp hF rfl (by kernel_rfl) rfl (H100 v (ext_trans hb g))
        refine AllReadyH.cons rfl (fun K hK => ?_) AllReadyH.nil
        go_simp
        refine hK.out _ _ (KEEP.out _ (ext_alloc hb (.cells #[.slice none 0 0, .slice none 0 0] 27))) (fun _ => ?_)
        clear hK K
        try simp only [Act.put, List.setIfInBounds_toArray, List.set_cons_zero, List.set_cons_succ]
        exact fapp hF rfl (by kernel_rfl) rfl (H001 (wx.alloc (.cells #[.slice none 0 0, .slice none 0 0] 27)) wx.heap.size (ext_alloc hb (.cells #[.slice none 0 0, .slice none 0 0] 27)) (heap_new wx (.cells #[.slice none 0 0, .slice none 0 0] 27)) hb.size)
      exact fapp (rfl : F = F) rfl (by kernel_rfl) rfl (H000 wc.drew (ext_drew (Below.refl _ _)))
    case rest =>
      obtain ⟨C, rfl, g, l, A, hC, hL, hA⟩ := hcut
      have GB := Lib.hid g
      have HC := Lib.hid hC
      have HL := Lib.hid hL
      have HA := Lib.hid hA
      obtain ⟨d0, d1⟩ := two_cells hC
      clear KEEP HB G1 zb g hC hL hA HX
      go_wp2_with fail
      refine (HRN.out _ _ (cd_of (c := (plainC (zeL ⟨op, xd, xa, xb, xn, name⟩ c) zeA)) (ars_block (L := zeA) HA.out (by decide)) (lns_block (L := (plainC (zeL ⟨op, xd, xa, xb, xn, name⟩ c) zeA).lines) HL.out (by show 6 ≤ 1000; decide)) (by show 1 ≤ 1000; decide) (by show 6 ≤ 1000; decide))).mono ?_; rintro e wr ⟨⟨po, co, rfl, hr⟩, gr⟩
      have HS := Lib.hid (rsame_any _ _ _ _ _ hr (rn_lit _ 1 0 6) (by decide) (by decide))
      rw [decide_eq_true (rfl : (⟨1, 0, [], 6⟩ : Rn) = ⟨1, 0, [], 6⟩)] at HS
      have GR := Lib.hid (ext_trans GB.out gr)
      clear hr gr HRN HA HL HC GB
      go_wp2_with fail
      refine HS.out.mono ?_; rintro e w9 ⟨rfl, g9⟩
      have GZ := Lib.hid (ext_trans GR.out g9)
      clear g9 HS GR
      go_wp2_with fail
      go_ret
      exact ⟨rfl, GZ.out⟩
theorem zero_walk (c y : Int) (w : World) (hc : I64 c) (hy : I64 y) (hv : Env w) : Calls Tryz.prog 10 #[.int .i64 c, .int .i64 y] w fun e w' => e = .returned (.bool true) ∧ Below w.heap.size w w' := by
  obtain ⟨q, hq, hq2⟩ := pick_nat9 y 7 (by decide)
  exact zero_core c y q w hc hy hv hq hq2
end Go.Proofs.YtjimeengkfjihaaGreatDoor
