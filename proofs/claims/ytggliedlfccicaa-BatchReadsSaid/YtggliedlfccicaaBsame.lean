/- Two batches of the same content: SameOps and SameBatch answer true. -/
import Derived.Test.YtggliedlfccicaaBcheck
namespace Go.Proofs.Ytggliedlfccicaa.Bt
set_option linter.unusedVariables false
set_option linter.unusedSimpArgs false
open Go.RowKit Lift Ik

theorem run_str {w : World} {B c : Nat} {A : Option Addr} {bs : List Nat} (hl : Lies w B A (bs.map vb)) : Sem.run Try.prog (convert 28 9 (.slice A bs.length c)) w = .ok (.string (str bs)) w :=
  run_string_lies (P := Try.prog) (c := c) _ _ 5 Try.underlying28 Try.underlying5 Try.underlying9 hl
theorem same_at {L M : List D} (he : opsO L = opsO M) {j : Nat} {d : D} (hd : L[j]? = some d) : ∃ e, M[j]? = some e ∧ e.kind = d.kind ∧ e.key = d.key ∧ e.val = d.val := by
  have h1 : (opsO L)[j]? = some d.o := by unfold opsO; rw [List.getElem?_map, hd]; rfl
  rw [he] at h1
  unfold opsO at h1
  rw [List.getElem?_map] at h1
  obtain ⟨e, h2, h3⟩ := Option.map_eq_some_iff.1 h1
  unfold D.o at h3
  injection h3 with k1 k2 k3
  exact ⟨e, h2, k1, k2, k3⟩

set_option maxRecDepth 100000 in
set_option maxHeartbeats 800000 in
theorem same_ops (A1 A2 : Option Addr) (c1 c2 : Nat) (L M : List D) (w : World) (h1 : Ops w w.heap.size A1 c1 L) (h2 : Ops w w.heap.size A2 c2 M) (he : opsO L = opsO M) :
    Calls Try.prog 29 #[.slice A1 L.length c1, .slice A2 M.length c2] w fun e w' => e = .returned (.bool true) ∧ Below w.heap.size w w' := by
  have hlen : M.length = L.length := by have := congrArg List.length he; simpa [opsO] using this.symm
  have hc1 := h1.len
  have hc2 := h2.len
  have hm1 := h1.cap
  have hm2 := h2.cap
  unfold maxLen at hm1 hm2
  rw [hlen] at hc2 ⊢
  have H1 := Lib.hid h1
  have H2 := Lib.hid h2
  have HE := Lib.hid he
  clear h1 h2 he hlen
  go_enter Try.func29, Try.ntmps29
  go_wp2_with fail
  go_loopw [5] (fun i wr => ∃ j : Nat, j ≤ L.length ∧ i = .int .i64 j ∧ Hid (Below w.heap.size w wr)) (fun i _ => L.length + 1 - (intOf i).toNat)
  case atStart => exact ⟨0, by omega, rfl, Lib.hid (Below.refl _ _)⟩
  case round =>
    obtain ⟨j, hj, rfl, hb⟩ := hrel
    by_cases hlt : j < L.length
    · obtain ⟨d, hd⟩ : ∃ d, L[j]? = some d := ⟨_, List.getElem?_eq_getElem hlt⟩
      obtain ⟨d2, hd2, k1, k2, k3⟩ := same_at HE.out hd
      have o1 := H1.out.below hb.out
      have o2 := H2.out.below hb.out
      obtain ⟨ad1, p, hA1, hz1, hp1, hpb1, p0, p1, p2⟩ := o1.place hd
      obtain ⟨ad2, q, hA2, hz2, hp2, hpb2, q0, q1, q2⟩ := o2.place hd2
      have x1 := o1.ok d (List.mem_of_getElem? hd)
      have x2 := o2.ok d2 (List.mem_of_getElem? hd2)
      have s1 := fun k => run_str (c := d.kc) ((x1.kl.lies (B := w.heap.size) fun _ h => h).below (Joins.below_draws w.heap.size wr k))
      have s2 := fun k => run_str (c := d2.kc) ((x2.kl.lies (B := w.heap.size) fun _ h => h).below (Joins.below_draws w.heap.size wr k))
      have s3 := fun k => run_str (c := d.vc) ((x1.vl.lies (B := w.heap.size) fun _ h => h).below (Joins.below_draws w.heap.size wr k))
      have s4 := fun k => run_str (c := d2.vc) ((x2.vl.lies (B := w.heap.size) fun _ h => h).below (Joins.below_draws w.heap.size wr k))
      rw [k1] at q0
      rw [k2] at q1 s2
      rw [k3] at q2 s4
      subst hA1 hA2
      clear hz1 hz2 hpb1 hpb2 hd hd2 k1 k2 k3 o1 o2 x1 x2
      have n0 : (d.kind != d.kind) = false := by simp
      have n1 : ((str d.key).toList != (str d.key).toList) = false := by simp
      have n2 : ((str d.val).toList != (str d.val).toList) = false := by simp
      go_wp2_with fail
      go_quiet (fail)
      go_wp2_with fail
      go_roundw
      case rel => exact ⟨j + 1, by omega, by go_num, Lib.hid (hb.out.trans (Joins.below_draws _ _ _))⟩
      case measure => simp [intOf]; omega
    · obtain rfl : j = L.length := by omega
      go_wp2_with fail
      go_ret
      exact ⟨rfl, hb.out⟩

set_option maxRecDepth 100000 in
theorem same_batch (s : Nat) (A1 A2 : Option Addr) (c1 c2 : Nat) (L M : List D) (w : World) (h1 : Ops w w.heap.size A1 c1 L) (h2 : Ops w w.heap.size A2 c2 M) (he : opsO L = opsO M) :
    Calls Try.prog 18 #[.agg #[.int .u64 (s : Int), .slice A1 L.length c1], .agg #[.int .u64 (s : Int), .slice A2 M.length c2]] w fun e w' => e = .returned (.bool true) ∧ Below w.heap.size w w' := by
  have hb := Joins.below_alloc2 w (.cells #[.int .u64 (s : Int), .slice A1 L.length c1] 25) (.cells #[.int .u64 (s : Int), .slice A2 M.length c2] 25)
  have hs := same_ops A1 A2 c1 c2 L M _ (h1.next hb) (h2.next hb) he
  have HB := Lib.hid hb
  have HS := Lib.hid hs
  clear h1 h2 he hb hs
  go_enter Try.func18, Try.ntmps18
  go_wp2_with fail
  refine HS.out.mono ?_; rintro e W1 ⟨rfl, hb1⟩
  have HB1 := Lib.hid (HB.out.trans (hb1.mono HB.out.size))
  clear hb1 HS
  go_wp2_with fail
  go_ret
  exact ⟨rfl, HB1.out⟩
end Go.Proofs.Ytggliedlfccicaa.Bt
