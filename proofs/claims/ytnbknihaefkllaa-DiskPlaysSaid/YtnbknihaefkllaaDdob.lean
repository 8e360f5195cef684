/- A call on both disks, Do of butterylaw6: Read, Crash, Fail, and no call. -/
import Derived.Test.YtnbknihaefkllaaDdo
namespace Go.Proofs.Ytnbknihaefkllaa.Dl
set_option linter.unusedVariables false
set_option linter.unusedSimpArgs false
open Go.RowKit Go.Maps Lift Ik
open Dk (MS FM hit hit_fs hit_failed sizeM readM syncM appendM crashM renameM onFile num_any run_str)
open Rk (RTold removeM)
section
variable {B g gr go : Nat} {w0 w : World} {S Sr So : Nat → Prop} {m mo : MS} {rm : Int}
theorem sg_of {w : World} {g : Nat} {S : Nat → Prop} {rm : Int} {m : MS} (h : Rk.At w g S rm m) : S g := by obtain ⟨_, _, _, _, _, h⟩ := h; exact h.sg
set_option maxRecDepth 100000 in
set_option maxHeartbeats 1600000 in
theorem do5 (d : Ac) (T : Tri B w0 w g S m gr Sr rm m go So mo) (hok : d.Ok w0 B) (hp : d.p.size ≤ 60) (hq : d.q.size ≤ 60) (hbl : d.b.length ≤ 300) (hll : d.l.length ≤ 40) (hf : m.failed ≤ 100000) (hway : d.way = 5) :
    Calls Try.prog 9 #[.pointer (some ⟨g, 0, none⟩), .pointer (some ⟨gr, 0, none⟩), d.v] w (Did B w0 g gr rm go So mo (doM m d)) := by
  have HOK := Lib.hid hok
  obtain ⟨US, hus⟩ : ∃ US, US = ([.int .i64 5, .int .i64 d.at', .int .i64 d.n, .string d.p, .string d.q, .slice d.ba d.b.length d.bc, .slice d.la d.l.length d.lc] : List Value) := ⟨_, rfl⟩
  have hb0 := Joins.below_alloc1 w (.cells US.toArray 35)
  have b0 := Box.new w 35 US
  have T0 := Lib.hid (T.below hb0)
  have hn1 : ¬ S w.heap.size := fun h => Nat.lt_irrefl _ (T.d.lt _ h)
  have hn2 : ¬ Sr w.heap.size := fun h => Nat.lt_irrefl _ (T.r.lt _ h)
  have hn3 : ¬ So w.heap.size := fun h => Nat.lt_irrefl _ (T.o.lt _ h)
  have hB3 : B ≤ w.heap.size := T.size
  have E : Hid (doM m d = crashM m d.n) := Lib.hid (by simp [doM, hway])
  have hv : d.v = .agg US.toArray := by rw [hus]; show Value.agg _ = _; rw [hway]
  rw [hv]
  have k0 : (w.alloc (.cells US.toArray 35)).cell? ⟨w.heap.size, 0, none⟩ = some (.int .i64 5) := (b0.cell 0).trans (by rw [hus]; rfl)
  have k2 : (w.alloc (.cells US.toArray 35)).cell? ⟨w.heap.size, 2, none⟩ = some (.int .i64 d.n) := (b0.cell 2).trans (by rw [hus]; rfl)
  have B0 := Lib.hid b0
  have HUS := Lib.hid hus
  clear T hok hb0 b0 hway hus hv
  go_enter Try.func9, Try.ntmps9
  go_wp2_with fail
  generalize w.alloc (.cells US.toArray 35) = W1 at *
  refine (Dk.crash_any d.n HOK.out.w2 T0.out.d).mono ?_
  rintro e W3 ⟨S_W3, rfl, hA, hK, hS⟩
  have T3 := Lib.hid (T0.out.dd hA hK hS)
  have B3 := Lib.hid (B0.out.keep hK hn1)
  clear hA hK hS
  have k2' : W3.cell? ⟨w.heap.size, 2, none⟩ = some (.int .i64 d.n) := (B3.out.cell 2).trans (by rw [HUS.out]; rfl)
  go_wp2_with fail
  refine (Rk.rcrash_any d.n HOK.out.w2 T3.out.r).mono ?_
  rintro e W4 ⟨S_W4, rfl, hA, hK, hS⟩
  have T4 := Lib.hid (T3.out.rr hA hK hS)
  have B4 := Lib.hid (B3.out.keep hK hn2)
  clear hA hK hS
  go_wp2_with fail
  go_ret
  exact ⟨_, _, rfl, by rw [E.out]; exact T4.out⟩
set_option maxRecDepth 100000 in
set_option maxHeartbeats 1600000 in
theorem do6 (d : Ac) (T : Tri B w0 w g S m gr Sr rm m go So mo) (hok : d.Ok w0 B) (hp : d.p.size ≤ 60) (hq : d.q.size ≤ 60) (hbl : d.b.length ≤ 300) (hll : d.l.length ≤ 40) (hf : m.failed ≤ 100000) (hway : d.way = 6) :
    Calls Try.prog 9 #[.pointer (some ⟨g, 0, none⟩), .pointer (some ⟨gr, 0, none⟩), d.v] w (Did B w0 g gr rm go So mo (doM m d)) := by
  have HOK := Lib.hid hok
  obtain ⟨US, hus⟩ : ∃ US, US = ([.int .i64 6, .int .i64 d.at', .int .i64 d.n, .string d.p, .string d.q, .slice d.ba d.b.length d.bc, .slice d.la d.l.length d.lc] : List Value) := ⟨_, rfl⟩
  have hb0 := Joins.below_alloc1 w (.cells US.toArray 35)
  have b0 := Box.new w 35 US
  have T0 := Lib.hid (T.below hb0)
  have hn1 : ¬ S w.heap.size := fun h => Nat.lt_irrefl _ (T.d.lt _ h)
  have hn2 : ¬ Sr w.heap.size := fun h => Nat.lt_irrefl _ (T.r.lt _ h)
  have hn3 : ¬ So w.heap.size := fun h => Nat.lt_irrefl _ (T.o.lt _ h)
  have hB3 : B ≤ w.heap.size := T.size
  have E : Hid (doM m d = { m with armed := d.l }) := Lib.hid (by simp [doM, hway])
  have hv : d.v = .agg US.toArray := by rw [hus]; show Value.agg _ = _; rw [hway]
  rw [hv]
  have k0 : (w.alloc (.cells US.toArray 35)).cell? ⟨w.heap.size, 0, none⟩ = some (.int .i64 6) := (b0.cell 0).trans (by rw [hus]; rfl)
  have k6 : (w.alloc (.cells US.toArray 35)).cell? ⟨w.heap.size, 6, none⟩ = some (.slice d.la d.l.length d.lc) := (b0.cell 6).trans (by rw [hus]; rfl)
  have B0 := Lib.hid b0
  have HUS := Lib.hid hus
  clear T hok hb0 b0 hway hus hv
  obtain ⟨v6, W6, hr6, hown6, hb6, _⟩ := run_append_lies (P := Try.prog) (w := (w.alloc (.cells US.toArray 35))) (base := (w.alloc (.cells US.toArray 35)).heap.size) (m := d.l.length) (c := d.lc) 33 33 3 (.int .i64 0) 1 8 Try.underlying33 (by kernel_rfl) rfl (by decide)
    (fun u hu => by simp at hu; obtain ⟨_, _, rfl⟩ := hu; rfl) (World.ownsRow_nil _ _ _ _) (HOK.out.ll.below T0.out.low) (by simp) (by unfold maxLen; omega) (by omega) (Nat.le_refl _)
  rw [Nat.zero_add, List.nil_append] at hown6
  obtain ⟨A6, c6, rfl, hc6, hm6, hl6⟩ := own_parts hown6
  have h06 : A6 = none → d.l.length = 0 ∧ c6 = 0 := fun e => by subst e; exact Dk.own_none hown6
  have T6 := Lib.hid (T0.out.below hb6)
  have B6 := Lib.hid (B0.out.below hb6 B0.out.lt)
  have HF6 := Lib.hid (Dk.fail_any A6 c6 d.l T6.out.d hl6 (by omega) h06 HOK.out.lw)
  have HR6 := Lib.hid hr6
  clear hr6 hown6 hb6 hl6 h06 T0
  go_enter Try.func9, Try.ntmps9
  go_wp2_with (at_builtin; refine wpList_append_run rfl _ _ 33 rfl rfl rfl HR6.out ?_)
  refine (HF6.out).mono ?_
  rintro e W7 ⟨S_W7, rfl, hA, hK, hS⟩
  have T7 := Lib.hid (T6.out.dd hA hK hS)
  have B7 := Lib.hid (B6.out.keep hK hn1)
  clear hA hK hS
  have k6' : W7.cell? ⟨w.heap.size, 6, none⟩ = some (.slice d.la d.l.length d.lc) := (B7.out.cell 6).trans (by rw [HUS.out]; rfl)
  go_wp2_with fail
  refine (Rk.rfail_any d.la d.lc d.l T7.out.r ((HOK.out.ll.below T7.out.low).up T7.out.size) (by omega) HOK.out.lw).mono ?_
  rintro e W8 ⟨S_W8, rfl, hA, hK, hS⟩
  have T8 := Lib.hid (T7.out.rr hA hK hS)
  have B8 := Lib.hid (B7.out.keep hK hn2)
  clear hA hK hS
  go_wp2_with fail
  go_ret
  exact ⟨_, _, rfl, by rw [E.out]; exact T8.out⟩
set_option maxRecDepth 100000 in
set_option maxHeartbeats 1600000 in
theorem do4 (d : Ac) (T : Tri B w0 w g S m gr Sr rm m go So mo) (hok : d.Ok w0 B) (hp : d.p.size ≤ 60) (hq : d.q.size ≤ 60) (hbl : d.b.length ≤ 300) (hll : d.l.length ≤ 40) (hf : m.failed ≤ 100000) (hway : d.way = 4) :
    Calls Try.prog 9 #[.pointer (some ⟨g, 0, none⟩), .pointer (some ⟨gr, 0, none⟩), d.v] w (Did B w0 g gr rm go So mo (doM m d)) := by
  have HOK := Lib.hid hok
  obtain ⟨US, hus⟩ : ∃ US, US = ([.int .i64 4, .int .i64 d.at', .int .i64 d.n, .string d.p, .string d.q, .slice d.ba d.b.length d.bc, .slice d.la d.l.length d.lc] : List Value) := ⟨_, rfl⟩
  have hb0 := Joins.below_alloc1 w (.cells US.toArray 35)
  have b0 := Box.new w 35 US
  have T0 := Lib.hid (T.below hb0)
  have hn1 : ¬ S w.heap.size := fun h => Nat.lt_irrefl _ (T.d.lt _ h)
  have hn2 : ¬ Sr w.heap.size := fun h => Nat.lt_irrefl _ (T.r.lt _ h)
  have hn3 : ¬ So w.heap.size := fun h => Nat.lt_irrefl _ (T.o.lt _ h)
  have hB3 : B ≤ w.heap.size := T.size
  have E : Hid (doM m d = (hit m).2) := Lib.hid (by simp [doM, hway])
  have hv : d.v = .agg US.toArray := by rw [hus]; show Value.agg _ = _; rw [hway]
  rw [hv]
  have k0 : (w.alloc (.cells US.toArray 35)).cell? ⟨w.heap.size, 0, none⟩ = some (.int .i64 4) := (b0.cell 0).trans (by rw [hus]; rfl)
  have k3 : (w.alloc (.cells US.toArray 35)).cell? ⟨w.heap.size, 3, none⟩ = some (.string d.p) := (b0.cell 3).trans (by rw [hus]; rfl)
  have k1 : (w.alloc (.cells US.toArray 35)).cell? ⟨w.heap.size, 1, none⟩ = some (.int .i64 d.at') := (b0.cell 1).trans (by rw [hus]; rfl)
  have k2 : (w.alloc (.cells US.toArray 35)).cell? ⟨w.heap.size, 2, none⟩ = some (.int .i64 d.n) := (b0.cell 2).trans (by rw [hus]; rfl)
  have B0 := Lib.hid b0
  have HUS := Lib.hid hus
  clear T hok hb0 b0 hway hus hv
  go_enter Try.func9, Try.ntmps9
  go_wp2_with fail
  generalize w.alloc (.cells US.toArray 35) = W1 at *
  refine (Dk.read_any d.p d.at' d.n HOK.out.w1 HOK.out.w2 T0.out.d (by omega)).mono ?_
  rintro e W3 ⟨A3, c3, rfl, hl3, hc3, hm3, hA, hK⟩
  have T3 := Lib.hid (T0.out.dd hA hK fun k hk => .inl hk)
  have B3 := Lib.hid (B0.out.keep hK hn1)
  have HL3 := Lib.hid hl3
  have HG3 : Hid (gr < W1.heap.size) := Lib.hid (T0.out.r.lt _ (sg_of T0.out.r))
  clear hA hK hl3
  have k3' : W3.cell? ⟨w.heap.size, 3, none⟩ = some (.string d.p) := (B3.out.cell 3).trans (by rw [HUS.out]; rfl)
  have k1' : W3.cell? ⟨w.heap.size, 1, none⟩ = some (.int .i64 d.at') := (B3.out.cell 1).trans (by rw [HUS.out]; rfl)
  have k2' : W3.cell? ⟨w.heap.size, 2, none⟩ = some (.int .i64 d.n) := (B3.out.cell 2).trans (by rw [HUS.out]; rfl)
  go_wp2_with fail
  refine (Rk.rread_any d.p d.at' d.n (by omega) HOK.out.w1 HOK.out.w2 T3.out.r (by omega)).mono ?_
  rintro e W4 ⟨A4, c4, rfl, hl4, hc4, hm4, hA, hK⟩
  have T4 := Lib.hid (T3.out.rr hA (hK.mono fun k hk => by rw [hk]; exact sg_of T3.out.r) fun k hk => .inl hk)
  generalize readM m d.p d.at' d.n = r at *
  have q1 := run_str (c := c3) (HL3.out.later (w' := W4) (R' := fun k => k < W4.heap.size) (fun k hk => hK.block k hk.2 (by have := HG3.out; omega)) (fun k hk => Nat.lt_of_lt_of_le hk.2 hK.size) |>.lies (B := W4.heap.size) fun k hk => hk)
  have q2 := run_str (c := c4) (hl4.lies (B := W4.heap.size) fun k hk => hk.2)
  have n1 : ((r.1 : Int) == (r.1 : Int)) = true := by simp
  clear hA hK hl4 HL3 HG3
  go_wp2_with (go_at_call 13; refine (num_any _ _).mono ?_; rintro e w' ⟨rfl, rfl⟩)
  go_ret
  exact ⟨_, _, rfl, by rw [E.out]; exact T4.out⟩
end
end Go.Proofs.Ytnbknihaefkllaa.Dl
