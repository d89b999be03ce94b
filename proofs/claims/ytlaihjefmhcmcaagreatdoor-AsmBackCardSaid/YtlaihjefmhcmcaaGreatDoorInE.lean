/- What is read of a text. -/
import Derived.Test.YtlaihjefmhcmcaaGreatDoorRows
import Derived.WalkKit
import Derived.ProofKit
import Derived.OpenShut
import Derived.WalkLawsBesides
import Derived.WalkSpells
import Derived.Outline
import Derived.Handy
import Derived.Lib.Hide
import Derived.Lib.OthersKept
import Derived.KernelRfl
import Derived.Test.YtlaihjefmhcmcaaGreatDoorInA
import Derived.Test.YtlaihjefmhcmcaaGreatDoorIn1
import Derived.Lib.LaidTab
import Derived.Test.YtlaihjefmhcmcaaGreatDoorShelf
namespace Go.Proofs.YtlaihjefmhcmcaaGreatDoor
open Go.ChangeShapes Go.WideShapes Go.ChangeAt Go.RowKit
set_option linter.unusedVariables false
theorem cell_lt {w : World} {a : Addr} {v : Value} (h : w.cell? a = some v) : a.block < w.heap.size := by
  rcases Nat.lt_or_ge a.block w.heap.size with h' | h'
  · exact h'
  · simp [World.cell?, Array.getElem?_eq_none h'] at h
/-- What the walks ask of the library's variables. -/
def Env (w : World) : Prop :=
  (∃ m, w.cell? ⟨0, 0, none⟩ = some (.int .i64 m)) ∧
  (∃ ev, w.cell? ⟨4, 0, none⟩ = some ev ∧ (ev = .nilIface ∨ ∃ te pe, ev = .iface te pe)) ∧ (∃ ev, w.cell? ⟨5, 0, none⟩ = some ev ∧ (ev = .nilIface ∨ ∃ te pe, ev = .iface te pe)) ∧
  Lib.TabIs Tryz.prog w "internal/strconv.uint64pow10" .u64 Lib.pow10Tab
theorem cell_ext {w w' : World} {a : Addr} {v : Value} (h : w.cell? a = some v) (b : Below w.heap.size w w') : w'.cell? a = some v := (b.cell (p := a) (cell_lt h)).trans h
theorem pow_g : Tryz.prog.globalNamed "internal/strconv.uint64pow10" = some 1 := by kernel_rfl
theorem tab_ext {w w' : World} (h : Lib.TabIs Tryz.prog w "internal/strconv.uint64pow10" .u64 Lib.pow10Tab) (b : Below w.heap.size w w') : Lib.TabIs Tryz.prog w' "internal/strconv.uint64pow10" .u64 Lib.pow10Tab := by
  have c0 := h.cell pow_g 0 (by decide)
  have hlt : 1 < w.heap.size := cell_lt c0
  unfold Lib.TabIs at h ⊢
  rw [← h]
  unfold World.var?
  rw [pow_g, Option.bind_some, Option.bind_some, b.block _ hlt]
theorem Env.ext {w w' : World} (h : Env w) (b : Below w.heap.size w w') : Env w' := by
  obtain ⟨⟨m, hm⟩, ⟨a, ha, ia⟩, ⟨c, hc, ic⟩, ht⟩ := h
  exact ⟨⟨m, cell_ext hm b⟩, ⟨a, cell_ext ha b, ia⟩, ⟨c, cell_ext hc b, ic⟩, tab_ext ht b⟩
def AtoiIs (l : List UInt8) (e : Ending) : Prop := (∃ x tp q, e = .returned (.tuple #[.int .i64 x, .iface tp q]) ∧ atoiV l = 0) ∨ e = .returned (.tuple #[.int .i64 (atoiV l), .nilIface])
theorem atoi_any (l : List UInt8) (hz : l.length ≤ 281474976710656) (w : World) (hv : Env w) :
    Calls Tryz.prog 42 #[.string (mk l)] w fun e w' => AtoiIs l e ∧ Below w.heap.size w w' := by
  obtain ⟨_, ⟨a, ha, ia⟩, ⟨c, hc, ic⟩, _⟩ := hv
  cases h : Lib.atoiAll l with
  | ok v =>
    refine (Tryz.strconv_Atoi_ok (mk l) (by show l.length ≤ _; omega) v h w).mono ?_
    have hv : atoiV l = v := by unfold atoiV; rw [h]
    rintro e w' ⟨he, hw | ⟨q, hw⟩⟩
    · exact ⟨.inr (by rw [hv]; exact he), by rw [hw]; exact Below.refl _ _⟩
    · exact ⟨.inr (by rw [hv]; exact he), by rw [hw]; exact Lib.bytesWorld_below _ _ _⟩
  | «syntax» =>
    have hv : atoiV l = 0 := by unfold atoiV; rw [h]
    exact (Tryz.strconv_Atoi_syntax (mk l) hz h a w ha ia).mono fun e w' ⟨N, he, _, _, hb⟩ => ⟨.inl ⟨_, _, _, he, hv⟩, hb⟩
  | range =>
    have hv : atoiV l = 0 := by unfold atoiV; rw [h]
    exact (Tryz.strconv_Atoi_range (mk l) hz h c w hc ic).mono fun e w' ⟨N, he, _, _, hb⟩ => ⟨.inl ⟨_, _, _, he, hv⟩, hb⟩
def rdV (p : Int × Nat) : Value := .tuple #[.int .i64 p.1, .int .i64 p.2]
set_option maxRecDepth 100000 in
theorem rdnum_any (l : List UInt8) (k : Nat) (hk : k ≤ 1) (hl : l.length ≤ 100000) (w : World) (hv : Env w) :
    Calls Tryz.prog 89 #[.string (mk l), .int .i64 k] w fun e w' => e = .returned (rdV (rdNum l k)) ∧ Below w.heap.size w w' := by
  have hsz : (mk l).size = l.length := rfl
  obtain ⟨m, hm, hm2, hm3⟩ : ∃ m : Nat, min (k : Int) (l.length : Int) = m ∧ m ≤ l.length ∧ l.drop m = l.drop k := by
    by_cases h : k ≤ l.length
    · exact ⟨k, by omega, h, rfl⟩
    · exact ⟨l.length, by omega, Nat.le_refl _, by rw [List.drop_length, List.drop_eq_nil_of_le (by omega)]⟩
  have hex : (mk l).extract m l.length = mk (l.drop k) := by rw [drop_mk, hm3]
  have HP := Lib.hid (fun w => prefixN_any (l.drop k) w (by rw [List.length_drop]; omega))
  have hsp := span_le inNumB (l.drop k)
  have hdl : (l.drop k).length ≤ l.length := by rw [List.length_drop]; omega
  have hex2 : (mk (l.drop k)).extract 0 (spanB inNumB (l.drop k)) = mk ((l.drop k).take (spanB inNumB (l.drop k))) := take_mk _ _
  have hsz2 : (mk (l.drop k)).size = (l.drop k).length := rfl
  have HA := Lib.hid (fun w hv => atoi_any ((l.drop k).take (spanB inNumB (l.drop k))) (by rw [List.length_take]; omega) w hv)
  have HR : Hid (rdNum l k = (atoiV ((l.drop k).take (spanB inNumB (l.drop k))), k + spanB inNumB (l.drop k))) := Lib.hid rfl
  generalize (l.drop k).take (spanB inNumB (l.drop k)) = T at *
  generalize spanB inNumB (l.drop k) = n at *
  generalize l.drop k = D at *
  have HV := Lib.hid hv
  clear hm3 hv
  have hmin : 0 ≤ (m : Int) := by omega
  go_enter Tryz.func89, Tryz.ntmps89
  go_wp2_with fail
  refine (HP.out _).mono ?_; rintro e w1 ⟨rfl, rfl⟩
  go_wp2_with fail
  refine (HA.out _ HV.out).mono ?_; rintro e w2 ⟨hA, g⟩
  clear hex hex2
  rcases hA with ⟨x, tp, q, rfl, hz⟩ | rfl
  · have HZ := Lib.hid hz; clear hz
    go_wp2_with fail
    go_ret2
    exact ⟨by rw [HR.out]; simp [rdV, HZ.out], g⟩
  · go_wp2_with fail
    go_ret2
    exact ⟨by rw [HR.out]; simp [rdV], g⟩
end Go.Proofs.YtlaihjefmhcmcaaGreatDoor
