/- The project's cache: the function that goes through the slots. -/
import Derived.Test.YtbeohfmikpbkhaaCoR
namespace Go.Proofs.Ytbeohfmikpbkhaa.Ck
set_option linter.unusedVariables false
set_option linter.unusedSimpArgs false
open Go.RowKit Lift
/-- The link of slot j is as the row says, and the last one's is some pointer. -/
def Good (xs : List Nat) (j : Nat) (V : World) : Prop := ∀ x, xs[j]? = some x → ∃ v : Option Addr, V.cell? ⟨x, 6, none⟩ = some (.pointer v) ∧ ∀ y, xs[j + 1]? = some y → v = some ⟨y, 0, none⟩
theorem take_next {xs : List Nat} {j x : Nat} (h : xs[j]? = some x) : xs.take (j + 1) = xs.take j ++ [x] := by rw [List.take_add_one, h]; rfl
set_option maxRecDepth 100000 in
set_option maxHeartbeats 1600000 in
theorem all_in (n : Nat) (hn : 1 ≤ n) (xs : List Nat) (g l : Nat) (M : Option Nat) (J : List Nat → World → Prop) (W : World) (hm : xs.length ≤ 1000) (hJ : ∀ p V, J p V → Good xs p.length V)
    (hY : ∀ p x V, J p V → p ++ [x] <+: xs → YieldAt Fence.wide (n - 1) Try.prog l #[pt x] V fun e V' => e = .returned (.bool true) ∧ J (p ++ [x]) V')
    (c3 : W.cell? ⟨g, 3, none⟩ = some (ptO xs[0]?)) (c2 : W.cell? ⟨g, 2, none⟩ = some (.map M)) (hlen : Sem.run Try.prog (Builtin.len_ #[Ty.map] 3 #[.map M]) W = .ok (.int .i64 (xs.length : Int)) W) (h0 : J [] W) :
    CallsIn Fence.wide n Try.prog (29) #[pt g, .func (.yield l) #[] #[]] W fun e V' => (∃ v, e = .returned v) ∧ J xs V' := by
  have HJ := Lib.hid hJ
  have HY := Lib.hid hY
  clear hJ hY
  obtain ⟨o0, ho0⟩ : ∃ o0, o0 = xs[0]? := ⟨_, rfl⟩
  rw [← ho0] at c3
  have HO := Lib.hid ho0
  clear ho0
  refine callsIn_of_wp (Try.func29) rfl trivial ?_ rfl
  simp only [(Try.ntmps29), List.size_toArray, List.length_cons, List.length_nil, Nat.reduceAdd, Nat.reduceSub, Array.replicate_succ, Array.replicate_zero, List.push_toArray, List.append_toArray, List.nil_append, List.cons_append]
  gi_wp2
  gi_loopw [4, 15] (fun s i wr => ∃ j : Nat, j ≤ xs.length ∧ i = .int .i64 (j : Int) ∧ Hid (∀ x, xs[j]? = some x → s = pt x) ∧ Hid (J (xs.take j) wr)) (fun _ i _ => xs.length + 1 - (intOf i).toNat)
  case atStart => exact ⟨0, Nat.zero_le _, rfl, Lib.hid fun x hx => by rw [HO.out, hx]; rfl, Lib.hid (by simpa using h0)⟩
  case round =>
    obtain ⟨j, hj, rfl, hs, hJ⟩ := hrel
    by_cases hlt : j < xs.length
    · obtain ⟨x, hx⟩ : ∃ x, xs[j]? = some x := ⟨_, List.getElem?_eq_getElem hlt⟩
      obtain rfl := hs.out x hx
      have htl : (xs.take j).length = j := by rw [List.length_take]; omega
      obtain ⟨v, c6, hv⟩ := (by have h1 := HJ.out _ _ hJ.out; rw [htl] at h1; exact h1 x hx : ∃ v : Option Addr, wr.cell? ⟨x, 6, none⟩ = some (.pointer v) ∧ ∀ y, xs[j + 1]? = some y → v = some ⟨y, 0, none⟩)
      have hyy := HY.out _ x wr hJ.out (by rw [← take_next hx]; exact List.take_prefix _ _)
      rw [← take_next hx] at hyy
      obtain ⟨fn, tmps, assign, body, hy, hR⟩ := hyy
      have HV := Lib.hid hv
      clear hx hv htl
      gi_wp2
      refine hR.mono ?_
      rintro e W3 ⟨rfl, hJ3⟩
      have HJ3 := Lib.hid hJ3
      clear hJ3
      gi_wp2
      go_roundw
      case rel => exact ⟨j + 1, by omega, by go_num, Lib.hid fun y hy => by rw [HV.out y hy], HJ3⟩
      case measure => simp [intOf]; omega
    · obtain rfl : j = xs.length := by omega
      have hJ2 := hJ.out
      rw [List.take_length] at hJ2
      have HJ2 := Lib.hid hJ2
      clear hJ2
      gi_wp2
      go_end0
      exact ⟨⟨_, rfl⟩, HJ2.out⟩
end Go.Proofs.Ytbeohfmikpbkhaa.Ck
