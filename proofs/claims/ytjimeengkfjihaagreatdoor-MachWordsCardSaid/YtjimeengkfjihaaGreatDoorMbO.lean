/- Words and arrays, in plain words (MachWords). -/
import Derived.Test.YtjimeengkfjihaaGreatDoorRows
import Derived.WalkKit
import Derived.ProofKit
import Derived.KernelRfl
import Derived.OpenShut
import Derived.FnData
import Derived.Test.YtjimeengkfjihaaGreatDoorArgL
import Derived.Test.YtjimeengkfjihaaGreatDoorMbP
import Derived.WalkLawsBesides
import Derived.WalkSpells
import Derived.Outline
import Derived.Handy
import Derived.Lib.Hide
import Derived.Lib.OthersKept
import Derived.Carry
import Derived.IntWalk
import Derived.Deep.RegionHeldLaw
import Derived.Deep.QuietTactic
import Derived.BigQuiet
import Derived.Test.YtjimeengkfjihaaGreatDoorMbD
namespace Go.Proofs.YtjimeengkfjihaaGreatDoor
open Go.ChangeShapes Go.WideShapes Go.ChangeAt Go.RowKit
set_option linter.unusedVariables false
set_option linter.unusedSimpArgs false
set_option maxRecDepth 100000
def wnms : List (List UInt8) := [[97], [98], [99], [100], [101], [102]]
def arrN : List (List UInt8) → List (List UInt8) → Bool
  | [], _ => false
  | a :: r, ns => ns.contains a || arrN r (a :: ns)
theorem arr_names : ∀ (A : List Ar) (ns : List (List UInt8)), arrsE A ns = arrN (A.map (·.name)) ns
  | [], _ => rfl
  | a :: r, ns => by
    show (ns.contains a.name || arrsE r (a.name :: ns)) = (ns.contains a.name || arrN (r.map (·.name)) (a.name :: ns))
    rw [arr_names r]
structure WaOK (A : List Ar) (k : Nat) (W : Int) : Prop where
  len : A.length = k
  six : k ≤ 6
  names : A.map (·.name) = wnms.take k
  size : ∀ a ∈ A, 1 ≤ a.size ∧ a.size ≤ 1000
  words : wordsL A = W
  low : 0 ≤ W
  high : W ≤ 1000 * k
theorem wa_nil : WaOK [] 0 0 := ⟨rfl, by omega, rfl, (fun a h => by cases h), rfl, by omega, by omega⟩
theorem words_add (A : List Ar) (a : Ar) : wordsL (A ++ [a]) = wordsL A + a.size := by
  unfold wordsL; simp [List.map_append, List.sum_append]
theorem WaOK.add {A : List Ar} {k : Nat} {W : Int} (h : WaOK A k W) (hk : k < 6) {n : List UInt8} (hn : wnms[k]? = some n) {s : Int} (hs : 1 ≤ s ∧ s ≤ 1000) : WaOK (A ++ [⟨n, s⟩]) (k + 1) (W + s) :=
  ⟨by simp [h.len], by omega, by rw [List.map_append, h.names, List.take_add_one, hn]; rfl, fun a ha => by
    rcases List.mem_append.1 ha with ha | ha
    · exact h.size a ha
    · rw [List.mem_singleton.1 ha]; exact hs, by rw [words_add, h.words], by have := h.low; omega, by have := h.high; omega⟩
theorem begins_add : ∀ (A : List Ar) (a : Ar) (p : Int) (F : List UInt8 → Option Int), beginsL (A ++ [a]) p F = putF (beginsL A p F) a.name (p + 8 * wordsL A)
  | [], a, p, F => by show putF F a.name p = _; simp [beginsL, wordsL]
  | b :: r, a, p, F => by
    show beginsL (r ++ [a]) (p + 8 * b.size) (putF F b.name p) = putF (beginsL r (p + 8 * b.size) (putF F b.name p)) a.name _
    rw [begins_add r a]
    have : p + 8 * b.size + 8 * wordsL r = p + 8 * wordsL (b :: r) := by
      have : wordsL (b :: r) = b.size + wordsL r := by unfold wordsL; simp
      omega
    rw [this]
theorem wa_fault {A : List Ar} {k : Nat} {W : Int} (h : WaOK A k W) : (faultL ⟨[], A⟩).1 = 0 := by
  refine plain_ok (L := []) ?_ ?_ (by simp) (fun x hx => by cases hx)
  · refine List.any_eq_false.2 fun a ha => ?_
    have h1 := h.size a ha
    have h2 : a.name ∈ wnms := List.mem_of_mem_take (by rw [← h.names]; exact List.mem_map.2 ⟨a, ha, rfl⟩)
    have h3 : labelB a.name = true := by
      generalize a.name = n at h2
      unfold wnms at h2
      simp at h2
      rcases h2 with rfl | rfl | rfl | rfl | rfl | rfl <;> decide
    unfold badArr
    rw [h3, decide_eq_false (by omega)]; simp
  · rw [arr_names, h.names]
    have := h.six
    rcases (show k = 0 ∨ k = 1 ∨ k = 2 ∨ k = 3 ∨ k = 4 ∨ k = 5 ∨ k = 6 by omega) with rfl | rfl | rfl | rfl | rfl | rfl | rfl <;> decide
theorem wa_fit {A : List Ar} {k : Nat} {W : Int} (h : WaOK A k W) : CdFit ⟨[], A⟩ := lab_fit (fun l hl => by cases hl) (fun a ha => by
  have h2 : a.name ∈ wnms := List.mem_of_mem_take (by rw [← h.names]; exact List.mem_map.2 ⟨a, ha, rfl⟩)
  generalize a.name = n at h2
  unfold wnms at h2
  simp at h2
  rcases h2 with rfl | rfl | rfl | rfl | rfl | rfl <;> decide)
theorem wa_addr {A : List Ar} {k : Nat} {W : Int} (h : WaOK A k W) (hk : k < 6) {n : List UInt8} (hn : wnms[k]? = some n) {s : Int} (hs : 1 ≤ s ∧ s ≤ 1000) : addrL ⟨[], A ++ [⟨n, s⟩]⟩ n = 65536 + 8 * W := by
  unfold addrL
  rw [if_neg (by simp [wa_fault (h.add hk hn hs)])]
  show (match beginsL (A ++ [⟨n, s⟩]) 65536 (fun _ => none) n with | some v => v | none => -1) = _
  rw [begins_add, h.words]
  show (match (if n = n then some (65536 + 8 * W) else _) with | some v => v | none => -1) = _
  rw [if_pos rfl]
theorem wa_where {A : List Ar} {k : Nat} {W : Int} (h : WaOK A k W) (p : Int) : whereL ⟨[], A⟩ p = wordN W p := by
  unfold whereL
  rw [if_neg (by simp [wa_fault h])]
  show wordN (wordsL A) p = _
  rw [h.words]
theorem wo_at {W s : Int} (h : 0 ≤ W) (hs : 1 ≤ s) : wordN (W + s) (65536 + 8 * W) = W := by
  unfold wordN; rw [if_neg (by omega), if_pos (by omega)]; omega
theorem wo_last {W s : Int} (h : 0 ≤ W) (hs : 1 ≤ s) : wordN (W + s) (65536 + 8 * W + 8 * s - 8) = W + s - 1 := by
  unfold wordN; rw [if_neg (by omega), if_pos (by omega)]; omega
theorem wo_end {W s : Int} (h : 0 ≤ W ∧ W ≤ 6000) (hs : 1 ≤ s ∧ s ≤ 1000) : wordN (W + s) (65536 + 8 * W + 8 * s) = -1 := by
  unfold wordN; rw [if_neg (by omega), if_neg (by omega), if_neg (by omega)]
theorem wo_odd {W s : Int} : wordN (W + s) (65536 + 8 * W + 1) = -1 := by
  unfold wordN; rw [if_pos (by omega)]
theorem wo_stack {W k : Int} (h : 0 ≤ W ∧ W ≤ 6000) (hk : 0 ≤ k ∧ k < 4096) : wordN W (1073709056 + 8 * k) = W + k := by
  unfold wordN; rw [if_neg (by omega), if_neg (by omega), if_pos (by omega)]; omega
theorem wo_out {W p : Int} (h : 0 ≤ W ∧ W ≤ 6000) (hp : p = 1073741824 ∨ p = 1073709048 ∨ p = 65528 ∨ p = 0) : wordN W p = -1 := by
  unfold wordN; rw [if_neg (by omega), if_neg (by omega), if_neg (by omega)]
section
variable {H : Type} {enc : TypeId × Value → H} {W : World} {base : Nat} {sp : Nat → Bool} {held : Bool} {v : Value} {d : DataW H} {ps : List MemPlace} {b0 : Nat}
theorem open_nums (hv : Value.okWide Tryz.prog W .any b0 23 v) (h : DataW.Trod enc Tryz.prog W base sp held 23 v d ps) : ∃ L, NumsAt W v L ∧ (∀ x ∈ L, I64 x) := by
  obtain ⟨a0, len, cap, rfl⟩ := okWide_slice Tryz.underlying23 hv
  obtain ⟨fuel, hf⟩ := h
  have hml : maxLen = 9223372036854775807 := by unfold maxLen; decide
  rcases open_ints Tryz.underlying23 Tryz.underlying3 cInt hf with ⟨hcs, _⟩ | ⟨a, len', cap', zs, hcs, _, hl, hm, hz, _, hcell, hwz⟩
  · simp [Value.cells] at hcs
    obtain ⟨rfl, rfl, rfl⟩ := hcs
    exact ⟨[], ⟨by simp, _, _, rfl, fun i hi => by cases hi⟩, fun x hx => by cases hx⟩
  · simp [Value.cells] at hcs
    obtain ⟨rfl, rfl, rfl⟩ := hcs
    have hlen : len ≤ zs.length := by rw [hz]; split <;> omega
    have htl : (zs.take len).length = len := by rw [List.length_take]; omega
    refine ⟨zs.take len, ⟨by omega, some a, cap, by rw [htl], fun i hi => ⟨a, rfl, ?_⟩⟩, fun x hx => bounds_i64 (hwz x (List.mem_of_mem_take hx))⟩
    have hi' : i < zs.length := by omega
    rw [hcell i hi', List.getElem_take, List.getD_eq_getElem?_getD, List.getElem?_eq_getElem hi']; rfl
end
end Go.Proofs.YtjimeengkfjihaaGreatDoor
/- The walk of MachWords. -/
namespace Go.Proofs.YtjimeengkfjihaaGreatDoor
open Go.ChangeShapes Go.WideShapes Go.ChangeAt Go.RowKit
set_option linter.unusedVariables false
set_option linter.unusedSimpArgs false
structure WInv (w wr : World) (A : List Ar) (k : Nat) (W : Int) (va : Value) : Prop where
  b : wr.heap[w.heap.size]? = some (.cells #[va, .slice none 0 0] 27 (0, 0))
  r : wr.ownsRow (w.heap.size + 1) 37 2 va A.length (A.flatMap cellsA)
  bl : Below w.heap.size w wr
  ok : WaOK A k W
theorem WInv.ext {w wr w2 : World} {A : List Ar} {k : Nat} {W : Int} {va : Value} (h : WInv w wr A k W va) (g : Below wr.heap.size wr w2) : WInv w w2 A k W va :=
  ⟨(g.block _ (Array.getElem?_eq_some_iff.1 h.b).1).trans h.b, own_ext h.r g, ext_trans h.bl g, h.ok⟩
theorem WInv.add {w wr w2 : World} {A : List Ar} {k : Nat} {W : Int} {va v' : Value} (h : WInv w wr A k W va) (hk : k < 6) {n : List UInt8} (hn : wnms[k]? = some n) {s : Int} (hs : 1 ≤ s ∧ s ≤ 1000) (hown : w2.ownsRow (w.heap.size + 1) 37 2 v' (A.length + 1) (A.flatMap cellsA ++ cellsA ⟨n, s⟩)) (hg : wr.grownBy w2 va.ownBlock) : WInv w (w2.setCell ⟨w.heap.size, 0, none⟩ v') (A ++ [⟨n, s⟩]) (k + 1) (W + s) v' := by
  have n0 := own_ne h.r (b := w.heap.size) (by omega)
  have zB : w.heap.size < wr.heap.size := (Array.getElem?_eq_some_iff.1 h.b).1
  refine ⟨heap_setCell_same _ _ 0 _ _ v' ((hg.block _ zB (fun e => n0 e.symm)).trans h.b), ?_, ext_set (below_grown h.bl hg (by omega) (fun b hb => by have := (h.r.lt b hb).1; omega)) (Nat.le_refl _) _, h.ok.add hk hn hs⟩
  have := own_set hown (b := w.heap.size) (o := 0) (x := v') (by omega)
  simpa using this
set_option maxHeartbeats 4000000 in
set_option maxRecDepth 100000 in
theorem words_walk (v : Value) (raw : List Int) (y : Int) (w : World) (hp : NumsAt w v raw) (hr : ∀ x ∈ raw, I64 x) (hy : I64 y) (hv : Env w) : Calls Tryz.prog 7 #[v, .int .i64 y] w fun e w' => e = .returned (.bool true) ∧ Below w.heap.size w w' := by
  have HAW := Lib.hid (awake9_any w hv)
  obtain ⟨k, hk, hk2⟩ := pick_nat9 y 4096 (by decide)
  have P1 : Hid (∀ w, Calls Tryz.prog 13 #[.int .i64 y, .int .i64 4096] w fun e w' => e = .returned (.int .i64 (k : Int)) ∧ w = w') :=
    Lib.hid (fun w => (pick9_any y 4096 w hy (by decide)).mono fun e w' h => ⟨by rw [← hk]; exact h.1, h.2⟩)
  obtain ⟨hn, p, cap, rfl, hc⟩ := hp
  have HC := Lib.hid hc
  have HR := Lib.hid hr
  clear hv hy hk hc hr
  go_enter Tryz.func7, Tryz.ntmps7
  go_wp2_with fail
  refine HAW.out.mono ?_; rintro e w1 ⟨rfl, g1⟩
  have GA := Lib.hid g1
  have z0 := g1.size
  clear g1 HAW
  go_wp2_with fail
  go_loopw [7, 8] (fun sv iv wr => ∃ (i : Nat) (A : List Ar) (W : Int) (va : Value), iv = .int .i64 i ∧ sv = .int .i64 W ∧ i ≤ raw.length ∧ i ≤ 6 ∧ WInv w1 wr A i W va) (fun _ iv wr => raw.length - slotN iv)
  case atStart => exact ⟨0, [], 0, .slice none 0 0, rfl, rfl, Nat.zero_le _, by decide, heap_new w1 _, World.ownsRow_nil _ _ _ _, ext_alloc (Below.refl _ _) _, wa_nil⟩
  case round =>
    obtain ⟨i, A, W, va, rfl, rfl, hi, hi6, hI⟩ := hrel
    by_cases h : i < raw.length ∧ i < 6
    · obtain ⟨h1, h2⟩ := h
      obtain ⟨a, rfl, hca⟩ := HC.out i h1
      have hcx := ((ext_trans GA.out hI.bl).cell (at_lt hca)).trans hca
      have hx := HR.out _ (List.getElem_mem h1)
      generalize raw[i]'h1 = x at hca hcx hx
      obtain ⟨m, hm, hm2⟩ := pick_nat9 x 1000 (by decide)
      have P2 : Hid (∀ w, Calls Tryz.prog 13 #[.int .i64 x, .int .i64 1000] w fun e w' => e = .returned (.int .i64 (m : Int)) ∧ w = w') :=
        Lib.hid (fun w => (pick9_any x 1000 w hx (by decide)).mono fun e w' h => ⟨by rw [← hm]; exact h.1, h.2⟩)
      obtain ⟨n, hn2⟩ : ∃ n, wnms[i]? = some n := ⟨_, List.getElem?_eq_getElem (by show i < 6; exact h2)⟩
      obtain ⟨pn, capn, hvn⟩ := own_slice hI.r
      subst hvn
      have hAl2 : A.length ≤ 6 := by have := hI.ok.len; omega
      have HI := Lib.hid hI
      have HI0 := Lib.hid hI.ok
      have hi1 : (i : Int) < (raw.length : Int) := by omega
      have hi2 : (i : Int) < 6 := by omega
      clear hI hca hx hm
      go_wp2_with (go_at_call 13; (with_reducible refine (P2.out _).mono ?_); rintro e wk ⟨rfl, rfl⟩)
      go_cut [] (fun wx => ∃ va', WInv w1 wx (A ++ [⟨n, 1 + (m : Int)⟩]) (i + 1) (W + (1 + (m : Int))) va')
      case first =>
        clear hi1 hi2 P1 P2 hcx HR HC
        rcases (show i = 0 ∨ i = 1 ∨ i = 2 ∨ i = 3 ∨ i = 4 ∨ i = 5 by omega) with rfl | rfl | rfl | rfl | rfl | rfl
        · obtain rfl : [97] = n := Option.some.inj hn2
          have c0 : wr.cell? ⟨w1.heap.size, 0, none⟩ = some (.slice pn A.length capn) := (two_cells HI.out.b).1
          have zB : w1.heap.size < wr.heap.size := (Array.getElem?_eq_some_iff.1 HI.out.b).1
          obtain ⟨i0, hi0, hz0, hz1, hz2⟩ := info_parts infoA
          go_region_law ((first
            | (refine step_append_lies _ (by rfl) _ _ _ (by rfl) (w1.heap.size + 1) 37 i0 _ 2 24 Tryz.underlying25 hi0 hz0 hz1 hz2 rfl (by omega) _ A.length (A.flatMap cellsA) (by rfl) (own_ext HI.out.r (ext_alloc (ext_alloc (ext_drew (Below.refl _ _)) _) _)) ⟨wr.heap.size + 1, 0, none⟩ 1 1 (cellsA ⟨[97], 1 + (m : Int)⟩) (by rfl) (by rfl) (World.news_of_block (cs := #[.string ⟨#[97]⟩, .int .i64 (1 + (m : Int))]) (t := 37) (fr := (0, 0)) (heap_new' _ _ _ (by simp))) (oneA _) (by omega) (by unfold maxLen; omega) (by omega) (by simp; omega) (wr.heap.size + 2) (by simp) ?_; intro gg cap6 w6 hown6 hg6 hat6 hlt6; have hgx := grown_after hg6 (ext_alloc (ext_alloc (ext_drew (Below.refl wr.heap.size wr)) _) _); have HW := Lib.hid (HI.out.add (by decide) hn2 (s := 1 + (m : Int)) (by omega) hown6 hgx); have hf6 := (hgx.block w1.heap.size zB (fun e => own_ne HI.out.r (b := w1.heap.size) (by omega) e.symm)).trans HI.out.b; have f1 : w6.frozen? ⟨w1.heap.size, 0, none⟩ = false := (two_frozen hf6).1; have c1 : w6.cell? ⟨w1.heap.size, 0, none⟩ = _ := (two_cells hf6).1; clear hf6 hgx hown6 hg6 hat6)))
          all_goals
            clear c1 f1
            go_wp2_with fail
            go_meet
            case rel => exact ⟨_, HW.out⟩
        · obtain rfl : [98] = n := Option.some.inj hn2
          have c0 : wr.cell? ⟨w1.heap.size, 0, none⟩ = some (.slice pn A.length capn) := (two_cells HI.out.b).1
          have zB : w1.heap.size < wr.heap.size := (Array.getElem?_eq_some_iff.1 HI.out.b).1
          obtain ⟨i0, hi0, hz0, hz1, hz2⟩ := info_parts infoA
          go_region_law ((first
            | (refine step_append_lies _ (by rfl) _ _ _ (by rfl) (w1.heap.size + 1) 37 i0 _ 2 24 Tryz.underlying25 hi0 hz0 hz1 hz2 rfl (by omega) _ A.length (A.flatMap cellsA) (by rfl) (own_ext HI.out.r (ext_alloc (ext_alloc (ext_drew (Below.refl _ _)) _) _)) ⟨wr.heap.size + 1, 0, none⟩ 1 1 (cellsA ⟨[98], 1 + (m : Int)⟩) (by rfl) (by rfl) (World.news_of_block (cs := #[.string ⟨#[98]⟩, .int .i64 (1 + (m : Int))]) (t := 37) (fr := (0, 0)) (heap_new' _ _ _ (by simp))) (oneA _) (by omega) (by unfold maxLen; omega) (by omega) (by simp; omega) (wr.heap.size + 2) (by simp) ?_; intro gg cap6 w6 hown6 hg6 hat6 hlt6; have hgx := grown_after hg6 (ext_alloc (ext_alloc (ext_drew (Below.refl wr.heap.size wr)) _) _); have HW := Lib.hid (HI.out.add (by decide) hn2 (s := 1 + (m : Int)) (by omega) hown6 hgx); have hf6 := (hgx.block w1.heap.size zB (fun e => own_ne HI.out.r (b := w1.heap.size) (by omega) e.symm)).trans HI.out.b; have f1 : w6.frozen? ⟨w1.heap.size, 0, none⟩ = false := (two_frozen hf6).1; have c1 : w6.cell? ⟨w1.heap.size, 0, none⟩ = _ := (two_cells hf6).1; clear hf6 hgx hown6 hg6 hat6)))
          all_goals
            clear c1 f1
            go_wp2_with fail
            go_meet
            case rel => exact ⟨_, HW.out⟩
        · obtain rfl : [99] = n := Option.some.inj hn2
          have c0 : wr.cell? ⟨w1.heap.size, 0, none⟩ = some (.slice pn A.length capn) := (two_cells HI.out.b).1
          have zB : w1.heap.size < wr.heap.size := (Array.getElem?_eq_some_iff.1 HI.out.b).1
          obtain ⟨i0, hi0, hz0, hz1, hz2⟩ := info_parts infoA
          go_region_law ((first
            | (refine step_append_lies _ (by rfl) _ _ _ (by rfl) (w1.heap.size + 1) 37 i0 _ 2 24 Tryz.underlying25 hi0 hz0 hz1 hz2 rfl (by omega) _ A.length (A.flatMap cellsA) (by rfl) (own_ext HI.out.r (ext_alloc (ext_alloc (ext_drew (Below.refl _ _)) _) _)) ⟨wr.heap.size + 1, 0, none⟩ 1 1 (cellsA ⟨[99], 1 + (m : Int)⟩) (by rfl) (by rfl) (World.news_of_block (cs := #[.string ⟨#[99]⟩, .int .i64 (1 + (m : Int))]) (t := 37) (fr := (0, 0)) (heap_new' _ _ _ (by simp))) (oneA _) (by omega) (by unfold maxLen; omega) (by omega) (by simp; omega) (wr.heap.size + 2) (by simp) ?_; intro gg cap6 w6 hown6 hg6 hat6 hlt6; have hgx := grown_after hg6 (ext_alloc (ext_alloc (ext_drew (Below.refl wr.heap.size wr)) _) _); have HW := Lib.hid (HI.out.add (by decide) hn2 (s := 1 + (m : Int)) (by omega) hown6 hgx); have hf6 := (hgx.block w1.heap.size zB (fun e => own_ne HI.out.r (b := w1.heap.size) (by omega) e.symm)).trans HI.out.b; have f1 : w6.frozen? ⟨w1.heap.size, 0, none⟩ = false := (two_frozen hf6).1; have c1 : w6.cell? ⟨w1.heap.size, 0, none⟩ = _ := (two_cells hf6).1; clear hf6 hgx hown6 hg6 hat6)))
          all_goals
            clear c1 f1
            go_wp2_with fail
            go_meet
            case rel => exact ⟨_, HW.out⟩
        · obtain rfl : [100] = n := Option.some.inj hn2
          have c0 : wr.cell? ⟨w1.heap.size, 0, none⟩ = some (.slice pn A.length capn) := (two_cells HI.out.b).1
          have zB : w1.heap.size < wr.heap.size := (Array.getElem?_eq_some_iff.1 HI.out.b).1
          obtain ⟨i0, hi0, hz0, hz1, hz2⟩ := info_parts infoA
          go_region_law ((first
            | (refine step_append_lies _ (by rfl) _ _ _ (by rfl) (w1.heap.size + 1) 37 i0 _ 2 24 Tryz.underlying25 hi0 hz0 hz1 hz2 rfl (by omega) _ A.length (A.flatMap cellsA) (by rfl) (own_ext HI.out.r (ext_alloc (ext_alloc (ext_drew (Below.refl _ _)) _) _)) ⟨wr.heap.size + 1, 0, none⟩ 1 1 (cellsA ⟨[100], 1 + (m : Int)⟩) (by rfl) (by rfl) (World.news_of_block (cs := #[.string ⟨#[100]⟩, .int .i64 (1 + (m : Int))]) (t := 37) (fr := (0, 0)) (heap_new' _ _ _ (by simp))) (oneA _) (by omega) (by unfold maxLen; omega) (by omega) (by simp; omega) (wr.heap.size + 2) (by simp) ?_; intro gg cap6 w6 hown6 hg6 hat6 hlt6; have hgx := grown_after hg6 (ext_alloc (ext_alloc (ext_drew (Below.refl wr.heap.size wr)) _) _); have HW := Lib.hid (HI.out.add (by decide) hn2 (s := 1 + (m : Int)) (by omega) hown6 hgx); have hf6 := (hgx.block w1.heap.size zB (fun e => own_ne HI.out.r (b := w1.heap.size) (by omega) e.symm)).trans HI.out.b; have f1 : w6.frozen? ⟨w1.heap.size, 0, none⟩ = false := (two_frozen hf6).1; have c1 : w6.cell? ⟨w1.heap.size, 0, none⟩ = _ := (two_cells hf6).1; clear hf6 hgx hown6 hg6 hat6)))
          all_goals
            clear c1 f1
            go_wp2_with fail
            go_meet
            case rel => exact ⟨_, HW.out⟩
        · obtain rfl : [101] = n := Option.some.inj hn2
          have c0 : wr.cell? ⟨w1.heap.size, 0, none⟩ = some (.slice pn A.length capn) := (two_cells HI.out.b).1
          have zB : w1.heap.size < wr.heap.size := (Array.getElem?_eq_some_iff.1 HI.out.b).1
          obtain ⟨i0, hi0, hz0, hz1, hz2⟩ := info_parts infoA
          go_region_law ((first
            | (refine step_append_lies _ (by rfl) _ _ _ (by rfl) (w1.heap.size + 1) 37 i0 _ 2 24 Tryz.underlying25 hi0 hz0 hz1 hz2 rfl (by omega) _ A.length (A.flatMap cellsA) (by rfl) (own_ext HI.out.r (ext_alloc (ext_alloc (ext_drew (Below.refl _ _)) _) _)) ⟨wr.heap.size + 1, 0, none⟩ 1 1 (cellsA ⟨[101], 1 + (m : Int)⟩) (by rfl) (by rfl) (World.news_of_block (cs := #[.string ⟨#[101]⟩, .int .i64 (1 + (m : Int))]) (t := 37) (fr := (0, 0)) (heap_new' _ _ _ (by simp))) (oneA _) (by omega) (by unfold maxLen; omega) (by omega) (by simp; omega) (wr.heap.size + 2) (by simp) ?_; intro gg cap6 w6 hown6 hg6 hat6 hlt6; have hgx := grown_after hg6 (ext_alloc (ext_alloc (ext_drew (Below.refl wr.heap.size wr)) _) _); have HW := Lib.hid (HI.out.add (by decide) hn2 (s := 1 + (m : Int)) (by omega) hown6 hgx); have hf6 := (hgx.block w1.heap.size zB (fun e => own_ne HI.out.r (b := w1.heap.size) (by omega) e.symm)).trans HI.out.b; have f1 : w6.frozen? ⟨w1.heap.size, 0, none⟩ = false := (two_frozen hf6).1; have c1 : w6.cell? ⟨w1.heap.size, 0, none⟩ = _ := (two_cells hf6).1; clear hf6 hgx hown6 hg6 hat6)))
          all_goals
            clear c1 f1
            go_wp2_with fail
            go_meet
            case rel => exact ⟨_, HW.out⟩
        · obtain rfl : [102] = n := Option.some.inj hn2
          have c0 : wr.cell? ⟨w1.heap.size, 0, none⟩ = some (.slice pn A.length capn) := (two_cells HI.out.b).1
          have zB : w1.heap.size < wr.heap.size := (Array.getElem?_eq_some_iff.1 HI.out.b).1
          obtain ⟨i0, hi0, hz0, hz1, hz2⟩ := info_parts infoA
          go_region_law ((first
            | (refine step_append_lies _ (by rfl) _ _ _ (by rfl) (w1.heap.size + 1) 37 i0 _ 2 24 Tryz.underlying25 hi0 hz0 hz1 hz2 rfl (by omega) _ A.length (A.flatMap cellsA) (by rfl) (own_ext HI.out.r (ext_alloc (ext_alloc (ext_drew (Below.refl _ _)) _) _)) ⟨wr.heap.size + 1, 0, none⟩ 1 1 (cellsA ⟨[102], 1 + (m : Int)⟩) (by rfl) (by rfl) (World.news_of_block (cs := #[.string ⟨#[102]⟩, .int .i64 (1 + (m : Int))]) (t := 37) (fr := (0, 0)) (heap_new' _ _ _ (by simp))) (oneA _) (by omega) (by unfold maxLen; omega) (by omega) (by simp; omega) (wr.heap.size + 2) (by simp) ?_; intro gg cap6 w6 hown6 hg6 hat6 hlt6; have hgx := grown_after hg6 (ext_alloc (ext_alloc (ext_drew (Below.refl wr.heap.size wr)) _) _); have HW := Lib.hid (HI.out.add (by decide) hn2 (s := 1 + (m : Int)) (by omega) hown6 hgx); have hf6 := (hgx.block w1.heap.size zB (fun e => own_ne HI.out.r (b := w1.heap.size) (by omega) e.symm)).trans HI.out.b; have f1 : w6.frozen? ⟨w1.heap.size, 0, none⟩ = false := (two_frozen hf6).1; have c1 : w6.cell? ⟨w1.heap.size, 0, none⟩ = _ := (two_cells hf6).1; clear hf6 hgx hown6 hg6 hat6)))
          all_goals
            clear c1 f1
            go_wp2_with fail
            go_meet
            case rel => exact ⟨_, HW.out⟩
      case rest =>
        obtain ⟨va2, hI2⟩ := hcut
        clear HI
        obtain ⟨s, hs⟩ : ∃ s, 1 + (m : Int) = s := ⟨_, rfl⟩
        have hs1 : 1 ≤ s ∧ s ≤ 1000 := by omega
        rw [hs] at hI2
        obtain ⟨A2, hA2⟩ : ∃ A2, A ++ [⟨n, s⟩] = A2 := ⟨_, rfl⟩
        rw [hA2] at hI2
        obtain ⟨pn2, capn2, hvn2⟩ := own_slice hI2.r
        subst hvn2
        have hlen2 := hI2.ok.len
        have hAl3 := HI0.out.len
        have hlk : i < A2.length := by omega
        have hAk : A2[i]'hlk = ⟨n, s⟩ := by
          have := HI0.out.len
          subst hA2
          rw [List.getElem_append_right (by omega)]
          simp [this]
        obtain ⟨_, p', cap', hq, hcell⟩ := row_get lenA (by decide) hI2.r
        obtain ⟨g, hg, hgb, hcg⟩ := hcell i hlk
        injection hq with hq1 _ hq3
        subst hq1
        rw [hAk] at hcg
        have k0 : wc.cell? ⟨g, i * 2, none⟩ = some (.string (mk n)) := hcg 0 (by decide)
        have c0 : wc.cell? ⟨w1.heap.size, 0, none⟩ = some (.slice (some ⟨g, 0, none⟩) (i + 1) capn2) := by rw [← hlen2, ← hg]; exact (two_cells hI2.b).1
        have c1 : wc.cell? ⟨w1.heap.size, 1, none⟩ = some (.slice none 0 0) := (two_cells hI2.b).2
        have zB : w1.heap.size < wc.heap.size := (Array.getElem?_eq_some_iff.1 hI2.b).1
        have hW0 := HI0.out.low
        have hW1 : W ≤ 6000 := by have := HI0.out.high; omega
        have HCD : Hid (∀ w', Below wc.heap.size wc w' → CdAt w' (.agg #[.slice (some ⟨g, 0, none⟩) (i + 1) capn2, .slice none 0 0]) ⟨[], A2⟩) := Lib.hid (fun w' gx => by rw [← hlen2, ← hg]; exact (cd_of (c := ⟨[], A2⟩) (row_ars hI2.r (by show A2.length ≤ 9223372036854775807; omega)) ⟨by simp, none, 0, rfl, fun i h => by cases h⟩ (by show A2.length ≤ 1000; omega) (by show 0 ≤ 1000; decide)).ext gx)
        have hfit := wa_fit hI2.ok
        have hnl : n.length ≤ maxLen := by
          have : n ∈ wnms := List.mem_of_getElem? hn2
          unfold wnms at this
          simp at this
          unfold maxLen
          rcases this with rfl | rfl | rfl | rfl | rfl | rfl <;> simp
        have HAD : Hid (∀ w', Below wc.heap.size wc w' → Calls Tryz.prog 19 #[.agg #[.slice (some ⟨g, 0, none⟩) (i + 1) capn2, .slice none 0 0], .string (mk n)] w' fun e w'' => e = .returned (.int .i64 (65536 + 8 * W)) ∧ Below w'.heap.size w' w'') := Lib.hid (fun w' gx => (addr_any _ ⟨[], A2⟩ w' (HCD.out w' gx) hfit (by show A2.length ≤ 1000; omega) n hnl).mono fun e w'' hh => ⟨by rw [hh.1, ← hA2, wa_addr HI0.out h2 hn2 hs1], hh.2⟩)
        have HWH : Hid (∀ w' p, Below wc.heap.size wc w' → I64 p → Calls Tryz.prog 20 #[.agg #[.slice (some ⟨g, 0, none⟩) (i + 1) capn2, .slice none 0 0], .int .i64 p] w' fun e w'' => e = .returned (.int .i64 (wordN (W + s) p)) ∧ Below w'.heap.size w' w'') := Lib.hid (fun w' p gx hp => (where_any _ ⟨[], A2⟩ w' (HCD.out w' gx) hfit (by show A2.length ≤ 1000; omega) p hp).mono fun e w'' hh => ⟨by rw [hh.1, wa_where hI2.ok], hh.2⟩)
        have HI2 := Lib.hid hI2
        have HR2 := HR
        rw [hs]
        subst hg
        clear hI2 hA2 hAk hcell hcg hq3 HCD hfit hnl P2 HC hcx hm2 hs
        clear hlk hlen2
        have hil2 : (i : Int) < (i : Int) + 1 := by omega
        go_wp2_with fail
        go_cut [10] (fun s10 wx => s10 = .int .i64 (65536 + 8 * W) ∧ Below wc.heap.size wc wx)
        case first =>
          go_region_law ((first | (go_simp; go_at_call 19; refine (HAD.out _ (ext_drew (Below.refl _ _))).mono ?_; rintro e w2 ⟨rfl, g2⟩; have G2 : Hid (Below wc.heap.size wc w2) := Lib.hid (ext_trans (ext_drew (Below.refl _ _)) g2))))
          all_goals
            clear HWH g2
            go_wp2_with fail
            go_meet
            case rel => exact ⟨rfl, G2.out⟩
        case rest =>
          obtain ⟨rfl, gq⟩ := hcut
          have d0 := (gq.cell (p := ⟨w1.heap.size, 0, none⟩) zB).trans c0
          have d1 := (gq.cell (p := ⟨w1.heap.size, 1, none⟩) zB).trans c1
          have GQ := Lib.hid gq
          have zC := gq.size
          clear k0 c0 c1 gq HAD
          have zD : w1.heap.size < wc.heap.size := by omega
          go_wp2_with fail
          refine (HWH.out _ _ GQ.out (by unfold I64; omega)).mono ?_; rintro e v0 ⟨rfl, g⟩
          rw [wo_at hW0 hs1.1]
          have GQ2 := Lib.hid (ext_trans GQ.out g)
          have d02 := (g.cell (p := ⟨w1.heap.size, 0, none⟩) zD).trans d0
          have d12 := (g.cell (p := ⟨w1.heap.size, 1, none⟩) zD).trans d1
          have zD2 : w1.heap.size < v0.heap.size := by have := g.size; omega
          clear GQ d0 d1 zD g
          have GQ := GQ2
          have d0 := d02
          have d1 := d12
          have zD := zD2
          clear GQ2 d02 d12 zD2
          go_wp2_with fail
          refine (HWH.out _ _ GQ.out (by unfold I64; omega)).mono ?_; rintro e v1 ⟨rfl, g⟩
          rw [wo_last hW0 hs1.1]
          have GQ2 := Lib.hid (ext_trans GQ.out g)
          have d02 := (g.cell (p := ⟨w1.heap.size, 0, none⟩) zD).trans d0
          have d12 := (g.cell (p := ⟨w1.heap.size, 1, none⟩) zD).trans d1
          have zD2 : w1.heap.size < v1.heap.size := by have := g.size; omega
          clear GQ d0 d1 zD g
          have GQ := GQ2
          have d0 := d02
          have d1 := d12
          have zD := zD2
          clear GQ2 d02 d12 zD2
          go_wp2_with fail
          refine (HWH.out _ _ GQ.out (by unfold I64; omega)).mono ?_; rintro e v2 ⟨rfl, g⟩
          rw [wo_end ⟨hW0, hW1⟩ hs1]
          have GQ2 := Lib.hid (ext_trans GQ.out g)
          have d02 := (g.cell (p := ⟨w1.heap.size, 0, none⟩) zD).trans d0
          have d12 := (g.cell (p := ⟨w1.heap.size, 1, none⟩) zD).trans d1
          have zD2 : w1.heap.size < v2.heap.size := by have := g.size; omega
          clear GQ d0 d1 zD g
          have GQ := GQ2
          have d0 := d02
          have d1 := d12
          have zD := zD2
          clear GQ2 d02 d12 zD2
          go_wp2_with fail
          refine (HWH.out _ _ GQ.out (by unfold I64; omega)).mono ?_; rintro e v3 ⟨rfl, g⟩
          rw [wo_odd]
          have GQ2 := Lib.hid (ext_trans GQ.out g)
          have d02 := (g.cell (p := ⟨w1.heap.size, 0, none⟩) zD).trans d0
          have d12 := (g.cell (p := ⟨w1.heap.size, 1, none⟩) zD).trans d1
          have zD2 : w1.heap.size < v3.heap.size := by have := g.size; omega
          clear GQ d0 d1 zD g
          have GQ := GQ2
          have d0 := d02
          have d1 := d12
          have zD := zD2
          clear GQ2 d02 d12 zD2
          have HI3 := Lib.hid (HI2.out.ext GQ.out)
          clear d0 d1 HWH HI2
          go_wp2_with fail
          go_roundw
          case rel => exact ⟨i + 1, A2, W + s, _, by go_num, rfl, by omega, by omega, HI3.out⟩
          case measure => simp [slotN]; omega
    · have hlen2 := hI.ok.len
      obtain ⟨pn2, capn2, hvn2⟩ := own_slice hI.r
      subst hvn2
      have c0 : wr.cell? ⟨w1.heap.size, 0, none⟩ = some (.slice pn2 i capn2) := by rw [← hlen2]; exact (two_cells hI.b).1
      have c1 : wr.cell? ⟨w1.heap.size, 1, none⟩ = some (.slice none 0 0) := (two_cells hI.b).2
      have zD : w1.heap.size < wr.heap.size := (Array.getElem?_eq_some_iff.1 hI.b).1
      have hW0 := hI.ok.low
      have hW1 : W ≤ 6000 := by have := hI.ok.high; omega
      have hfit := wa_fit hI.ok
      have HCD : Hid (∀ w', Below wr.heap.size wr w' → CdAt w' (.agg #[.slice pn2 i capn2, .slice none 0 0]) ⟨[], A⟩) := Lib.hid (fun w' gx => by rw [← hlen2]; exact (cd_of (c := ⟨[], A⟩) (row_ars hI.r (by show A.length ≤ 9223372036854775807; omega)) ⟨by simp, none, 0, rfl, fun i h => by cases h⟩ (by show A.length ≤ 1000; omega) (by show 0 ≤ 1000; decide)).ext gx)
      have HWH : Hid (∀ w' p, Below wr.heap.size wr w' → I64 p → Calls Tryz.prog 20 #[.agg #[.slice pn2 i capn2, .slice none 0 0], .int .i64 p] w' fun e w'' => e = .returned (.int .i64 (wordN W p)) ∧ Below w'.heap.size w' w'') := Lib.hid (fun w' p gx hp => (where_any _ ⟨[], A⟩ w' (HCD.out w' gx) hfit (by show A.length ≤ 1000; omega) p hp).mono fun e w'' hh => ⟨by rw [hh.1, wa_where hI.ok], hh.2⟩)
      have GB := Lib.hid (ext_trans GA.out hI.bl)
      have GQ := Lib.hid (Below.refl wr.heap.size wr)
      clear hI hlen2 hfit HCD HC HR
      have hk0 : (k : Int) < 4096 := by omega
      by_cases hl : (i : Int) < (raw.length : Int)
      all_goals
        have h6 : (i : Int) < (raw.length : Int) → ¬ (i : Int) < 6 := fun h1 h2 => h ⟨by omega, by omega⟩
        try (have h66 := h6 hl)
        clear h6 h
        go_wp2_with (go_at_call 13; (with_reducible refine (P1.out _).mono ?_); rintro e wk ⟨rfl, rfl⟩)
        refine (HWH.out _ _ GQ.out (by unfold I64; omega)).mono ?_; rintro e v0 ⟨rfl, g⟩
        rw [wo_stack ⟨hW0, hW1⟩ ⟨by omega, by omega⟩]
        have GQ2 := Lib.hid (ext_trans GQ.out g)
        have d02 := (g.cell (p := ⟨w1.heap.size, 0, none⟩) zD).trans c0
        have d12 := (g.cell (p := ⟨w1.heap.size, 1, none⟩) zD).trans c1
        have zD2 : w1.heap.size < v0.heap.size := by have := g.size; omega
        clear GQ c0 c1 zD g
        have GQ := GQ2
        have c0 := d02
        have c1 := d12
        have zD := zD2
        clear GQ2 d02 d12 zD2
        go_wp2_with fail
        refine (HWH.out _ _ GQ.out (by unfold I64; omega)).mono ?_; rintro e v1 ⟨rfl, g⟩
        rw [wo_out ⟨hW0, hW1⟩ (by omega)]
        have GQ2 := Lib.hid (ext_trans GQ.out g)
        have d02 := (g.cell (p := ⟨w1.heap.size, 0, none⟩) zD).trans c0
        have d12 := (g.cell (p := ⟨w1.heap.size, 1, none⟩) zD).trans c1
        have zD2 : w1.heap.size < v1.heap.size := by have := g.size; omega
        clear GQ c0 c1 zD g
        have GQ := GQ2
        have c0 := d02
        have c1 := d12
        have zD := zD2
        clear GQ2 d02 d12 zD2
        go_wp2_with fail
        refine (HWH.out _ _ GQ.out (by unfold I64; omega)).mono ?_; rintro e v2 ⟨rfl, g⟩
        rw [wo_out ⟨hW0, hW1⟩ (by omega)]
        have GQ2 := Lib.hid (ext_trans GQ.out g)
        have d02 := (g.cell (p := ⟨w1.heap.size, 0, none⟩) zD).trans c0
        have d12 := (g.cell (p := ⟨w1.heap.size, 1, none⟩) zD).trans c1
        have zD2 : w1.heap.size < v2.heap.size := by have := g.size; omega
        clear GQ c0 c1 zD g
        have GQ := GQ2
        have c0 := d02
        have c1 := d12
        have zD := zD2
        clear GQ2 d02 d12 zD2
        go_wp2_with fail
        refine (HWH.out _ _ GQ.out (by unfold I64; omega)).mono ?_; rintro e v3 ⟨rfl, g⟩
        rw [wo_out ⟨hW0, hW1⟩ (by omega)]
        have GQ2 := Lib.hid (ext_trans GQ.out g)
        have d02 := (g.cell (p := ⟨w1.heap.size, 0, none⟩) zD).trans c0
        have d12 := (g.cell (p := ⟨w1.heap.size, 1, none⟩) zD).trans c1
        have zD2 : w1.heap.size < v3.heap.size := by have := g.size; omega
        clear GQ c0 c1 zD g
        have GQ := GQ2
        have c0 := d02
        have c1 := d12
        have zD := zD2
        clear GQ2 d02 d12 zD2
        go_wp2_with fail
        refine (HWH.out _ _ GQ.out (by unfold I64; omega)).mono ?_; rintro e v4 ⟨rfl, g⟩
        rw [wo_out ⟨hW0, hW1⟩ (by omega)]
        have GQ2 := Lib.hid (ext_trans GQ.out g)
        have d02 := (g.cell (p := ⟨w1.heap.size, 0, none⟩) zD).trans c0
        have d12 := (g.cell (p := ⟨w1.heap.size, 1, none⟩) zD).trans c1
        have zD2 : w1.heap.size < v4.heap.size := by have := g.size; omega
        clear GQ c0 c1 zD g
        have GQ := GQ2
        have c0 := d02
        have c1 := d12
        have zD := zD2
        clear GQ2 d02 d12 zD2
        have GZ := Lib.hid (ext_trans GB.out GQ.out)
        clear c0 c1 HWH
        go_wp2_with fail
        go_ret
        exact ⟨rfl, GZ.out⟩
end Go.Proofs.YtjimeengkfjihaaGreatDoor
