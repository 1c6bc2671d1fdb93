/- The contract of EventRead, the program's. -/
import Derived.Test.YtjdkenopfnepaaaEvReadI
import Derived.Test.YtjdkenopfnepaaaEvReadOut
import Derived.Test.YtjdkenopfnepaaaEvBytes
namespace Go.Proofs.Ytjdkenopfnepaaa
open Go.RowKit

theorem owns_mono {w : World} {base base' size n : Nat} {e : TypeId} {v : Value} {xs : List Value} (h : w.ownsRow base e size v n xs) (hb : base' ≤ base) : w.ownsRow base' e size v n xs := by
  refine ⟨h.1, ?_⟩
  rcases h.2 with h0 | ⟨g, cap, cur, h1, h2, r⟩
  · exact .inl h0
  · exact .inr ⟨g, cap, cur, h1, by omega, r⟩
theorem readI_len {s : ByteArray} {v : Ev} (h : ReadI s v) : v.prev.length ≤ 4 := by
  obtain ⟨s1, s2, s3, s4, s5, s6, s7, s8, s9, s10, m, _, _, _, _, _, _, _, _, q9, _⟩ := h
  have := numsR_len (step := stepI) (s := s) (st := s8) (min m 4).toNat
  rw [q9] at this
  simp only [] at this
  omega
/-- What is handed back. -/
def outV (v : Ev) (a : Option Addr) (cap : Nat) (c : Int) : Value := .agg #[.int .i64 v.id, .int .i64 v.room, .int .i64 v.author, .int .i64 v.kind, .int .i64 v.key, .int .i64 v.n, .string v.text, .slice a v.prev.length cap, .int .i64 v.time, .int .i64 c]
def ReadPost (text : ByteArray) (w : World) (e : Ending) (w' : World) : Prop :=
  ∃ (v : Ev) (a : Option Addr) (cap : Nat) (c : Int), e = .returned (outV v a cap c) ∧ Out text v c ∧ v.prev.length ≤ 4 ∧ w'.ownsRow w.heap.size 2 1 (.slice a v.prev.length cap) v.prev.length (nv v.prev) ∧ Below w.heap.size w w'
theorem ReadPost.fault {text : ByteArray} {w w' : World} {c : Int} (h : Out text zeroEv c) (hb : Below w.heap.size w w') : ReadPost text w (.returned (.agg #[.int .i64 0, .int .i64 0, .int .i64 0, .int .i64 0, .int .i64 0, .int .i64 0, .string ⟨#[]⟩, .slice none 0 0, .int .i64 0, .int .i64 c])) w' :=
  ⟨zeroEv, none, 0, c, rfl, h, by decide, World.ownsRow_nil _ _ _ _, hb⟩

set_option maxHeartbeats 1000000 in
theorem eventread_impl_no (text : ByteArray) (w : World) (c : Int) (hc : (c != 0) = true) (ho : Out text zeroEv c) (hu : ∀ w, Calls Try.prog 52 #[.string text] w fun e w' => e = .returned (textV ⟨#[]⟩ c) ∧ Below w.heap.size w w') :
    Calls Try.prog 9 #[.string text] w (ReadPost text w) := by
  have HO : Hid (Out text zeroEv c) := ho
  have HU : Hid (∀ w, Calls Try.prog 52 #[.string text] w fun e w' => e = .returned (textV ⟨#[]⟩ c) ∧ Below w.heap.size w w') := hu
  clear ho hu
  go_enter Try.func9, Try.ntmps9
  go_wp2_with fail
  refine (HU.out _).mono ?_
  rintro e w1 ⟨rfl, hb1⟩
  unfold textV
  obtain ⟨hc1, hf1⟩ := bcell hb1
  have hz1 : w.heap.size < w1.heap.size := by have := hb1.size; simp at this; omega
  have HW1 : Hid (Below w.heap.size w w1) := ((Below.refl _ _).alloc (Nat.le_refl _) _).trans (hb1.mono (by simp))
  clear hb1
  go_wp2
  refine bodyPost_ret (v := .agg #[.int .i64 0, .int .i64 0, .int .i64 0, .int .i64 0, .int .i64 0, .int .i64 0, .string ⟨#[]⟩, .slice none 0 0, .int .i64 0, .int .i64 c]) ?_ rfl ?_
  · simp [results, Try.results9, go_sem, hc1, hz1]
  · refine ReadPost.fault HO.out ?_
    refine Below.alloc ?_ (by simp; omega) _
    repeat refine Below.setCell ?_ (by simp) _
    exact HW1.out
set_option maxHeartbeats 2000000 in
theorem eventread_impl_ok (text : ByteArray) (w : World) (h4 : 4 ≤ (text.size : Int)) (h8 : (text.size : Int) ≤ 8000) (hk : okS text = true) :
    Calls Try.prog 9 #[.string text] w (ReadPost text w) := by
  have hs : (((text.extract 0 (text.size - 4)).size : Nat) : Int) ≤ 8000 := by simp only [ByteArray.size_extract]; omega
  obtain ⟨s, hse⟩ : ∃ s, s = text.extract 0 (text.size - 4) := ⟨_, rfl⟩
  have HS : Hid (s = text.extract 0 (text.size - 4)) := hse
  rw [← hse] at hs
  have HO : Hid (outS text s 0) := .inl ⟨hk, hse, rfl⟩
  have HK : Hid (okS text = true) := hk
  clear hse hk
  go_enter Try.func9, Try.ntmps9
  go_wp2_with fail
  refine (unseal_impl_any text _ h8 h4 s 0 HO.out).mono ?_
  rintro e w1 ⟨rfl, hb1⟩
  unfold textV
  obtain ⟨hc1, hf1⟩ := bcell hb1
  have hz1 : w.heap.size < w1.heap.size := by have := hb1.size; simp at this; omega
  have HA : Hid (Below (w.heap.size + 1) (w.alloc (Obj.cells #[.int .i64 0, .int .i64 0, .int .i64 0, .int .i64 0, .int .i64 0, .int .i64 0, .string ⟨#[]⟩, .slice none 0 0, .int .i64 0, .int .i64 0] 30)) w1) := hb1.mono (by simp)
  have HW1 : Hid (Below w.heap.size w w1) := ((Below.refl _ _).alloc (Nat.le_refl _) _).trans (hb1.mono (by simp))
  clear hb1
  go_wp2_with fail
  generalize hW : (w1.alloc (Obj.cells #[Value.string s, Value.int IntKind.i64 0, Value.int IntKind.i64 0] 73)).alloc (Obj.cells #[Value.string s, Value.int IntKind.i64 0, Value.nilIface] 80) = W
  have hr : RdI W (w1.heap.size + 1) s (0, false) := by
    rw [← hW]
    refine ⟨.nilIface, ?_, fun _ => rfl, fun h => by simp at h, by simp⟩
    have := (MapKept.heap_alloc (w1.alloc (Obj.cells #[Value.string s, Value.int IntKind.i64 0, Value.int IntKind.i64 0] 73)) (Obj.cells #[Value.string s, Value.int IntKind.i64 0, Value.nilIface] 80)).1
    simpa using this
  have HWW : Hid (Below w1.heap.size w1 W) := by rw [← hW]; exact ((Below.refl _ _).alloc (Nat.le_refl _) _).alloc (by simp) _
  have hzW : w1.heap.size + 1 < W.heap.size := hr.lt
  clear hW
  refine (readEvent_impl (w1.heap.size + 1) s W hr hs).mono ?_
  rintro e w2 ⟨v, a, cap, rfl, hown, hg2, hread⟩
  have HR : Hid (ReadI s v) := hread
  have HB2 : Hid (Below w1.heap.size w1 w2) := HWW.out.grown hg2 HWW.out.size (fun k hk => by cases hk; omega)
  have hz2 : w1.heap.size + 1 < w2.heap.size := Nat.lt_of_lt_of_le hzW hg2.size
  have HOW : Hid (w2.ownsRow (W.heap.size + 2) 2 1 (.slice a v.prev.length cap) v.prev.length (nv v.prev)) := hown
  have hp4 : v.prev.length ≤ 4 := readI_len hread
  have HN : Hid (∀ w', Below w2.heap.size w2 w' → NumsAt w' a v.prev) := fun w' hb => (numsAt_of hown (by omega)).kept hb
  obtain ⟨hc2, hf2⟩ := bcell HB2.out
  have hy2 : w.heap.size < w2.heap.size := by omega
  clear hr hread hg2 hown
  go_wp2_with fail
  refine (bytes_impl v a cap _ (HN.out _ ((Below.refl _ _).alloc (Nat.le_refl _) _))).mono ?_
  rintro e w3 ⟨rfl, hb3⟩
  obtain ⟨hc3, hf3⟩ := bcell hb3
  have hz3 : w2.heap.size < w3.heap.size := by have := hb3.size; simp at this; omega
  have hy3 : w.heap.size < w3.heap.size := by omega
  have HB3 : Hid (Below w2.heap.size w2 w3) := ((Below.refl _ _).alloc (Nat.le_refl _) _).trans (hb3.mono (by simp))
  have HW3 : Hid (Below w.heap.size w w3) := HW1.out.trans ((HB2.out.trans (HB3.out.mono (by omega))).mono (by omega))
  have HO3 : Hid (w3.ownsRow (W.heap.size + 2) 2 1 (.slice a v.prev.length cap) v.prev.length (nv v.prev)) := owns_below HOW.out HB3.out
  have HA3 : Hid (Below (w.heap.size + 1) (w.alloc (Obj.cells #[.int .i64 0, .int .i64 0, .int .i64 0, .int .i64 0, .int .i64 0, .int .i64 0, .string ⟨#[]⟩, .slice none 0 0, .int .i64 0, .int .i64 0] 30)) w3) := HA.out.trans ((HB2.out.trans (HB3.out.mono (by omega))).mono (by omega))
  have r0 : w3.cell? ⟨w.heap.size, 0, none⟩ = some (.int .i64 0) := (HA3.out.cell (p := ⟨w.heap.size, 0, none⟩) (by simp)).trans (cell_of_heap (MapKept.heap_alloc w _).1)
  have r1 : w3.cell? ⟨w.heap.size, 1, none⟩ = some (.int .i64 0) := (HA3.out.cell (p := ⟨w.heap.size, 1, none⟩) (by simp)).trans (cell_of_heap (MapKept.heap_alloc w _).1)
  have r2 : w3.cell? ⟨w.heap.size, 2, none⟩ = some (.int .i64 0) := (HA3.out.cell (p := ⟨w.heap.size, 2, none⟩) (by simp)).trans (cell_of_heap (MapKept.heap_alloc w _).1)
  have r3 : w3.cell? ⟨w.heap.size, 3, none⟩ = some (.int .i64 0) := (HA3.out.cell (p := ⟨w.heap.size, 3, none⟩) (by simp)).trans (cell_of_heap (MapKept.heap_alloc w _).1)
  have r4 : w3.cell? ⟨w.heap.size, 4, none⟩ = some (.int .i64 0) := (HA3.out.cell (p := ⟨w.heap.size, 4, none⟩) (by simp)).trans (cell_of_heap (MapKept.heap_alloc w _).1)
  have r5 : w3.cell? ⟨w.heap.size, 5, none⟩ = some (.int .i64 0) := (HA3.out.cell (p := ⟨w.heap.size, 5, none⟩) (by simp)).trans (cell_of_heap (MapKept.heap_alloc w _).1)
  have r6 : w3.cell? ⟨w.heap.size, 6, none⟩ = some (.string ⟨#[]⟩) := (HA3.out.cell (p := ⟨w.heap.size, 6, none⟩) (by simp)).trans (cell_of_heap (MapKept.heap_alloc w _).1)
  have r7 : w3.cell? ⟨w.heap.size, 7, none⟩ = some (.slice none 0 0) := (HA3.out.cell (p := ⟨w.heap.size, 7, none⟩) (by simp)).trans (cell_of_heap (MapKept.heap_alloc w _).1)
  have r8 : w3.cell? ⟨w.heap.size, 8, none⟩ = some (.int .i64 0) := (HA3.out.cell (p := ⟨w.heap.size, 8, none⟩) (by simp)).trans (cell_of_heap (MapKept.heap_alloc w _).1)
  have r9 : w3.cell? ⟨w.heap.size, 9, none⟩ = some (.int .i64 0) := (HA3.out.cell (p := ⟨w.heap.size, 9, none⟩) (by simp)).trans (cell_of_heap (MapKept.heap_alloc w _).1)
  clear hb3
  by_cases hb : bytesOf v = text
  · have bb : ((bytesOf v).toList == text.toList) = true := by rw [hb]; simp
    have HY : Hid (rightB v = true ∧ evBytes v = text) := bytes_yes h4 hb
    clear hb
    go_wp2
    refine bodyPost_ret (v := outV v a cap 0) ?_ rfl ⟨v, a, cap, 0, rfl, .inr (.inr ⟨⟨h4, h8⟩, .inr ⟨HK.out, .inr ⟨rfl, HY.out⟩⟩⟩), hp4, ?_, ?_⟩
    · simp [results, Try.results9, go_sem, outV, r0, r1, r2, r3, r4, r5, r6, r7, r8, r9]
    · refine owns_mono (base := W.heap.size + 2) ?_ (by omega)
      repeat refine ownsRow_setCell_below ?_ (by simp; omega) _
      exact HO3.out
    · repeat refine Below.setCell ?_ (by simp) _
      exact HW3.out
  · have bb : ((bytesOf v).toList == text.toList) = false := by
      rw [beq_eq_false_iff_ne]
      intro e
      exact hb (by apply ByteArray.ext; apply Array.ext'; rw [Lib.toList_data, Lib.toList_data] at e; exact e)
    have HY : Hid (¬ ∃ u, rightB u = true ∧ evBytes u = text) := by
      rintro ⟨u, hu, he⟩
      have hbo := body_of he HS.out
      obtain ⟨s1, s2, s3, s4, s5, s6, s7, s8, s9, s10, m, q1, q2, q3, q4, q5, q6, q7, q8, q9, q10⟩ := HR.out
      have r := read_back reads_I readsT_I (right_small hu) hbo q1 q2 q3 q4 q5 q6 q7 q8 q9 q10
      have hm := r.1
      have hp := (right_small hu).prev
      have huv := (r.2.2.2 (by rw [hm]; omega)).1
      have hvu : v = u := huv
      rw [hvu, bytes_of_right hu] at hb
      exact hb he
    clear hb
    go_wp2
    refine bodyPost_ret (v := .agg #[.int .i64 0, .int .i64 0, .int .i64 0, .int .i64 0, .int .i64 0, .int .i64 0, .string ⟨#[]⟩, .slice none 0 0, .int .i64 0, .int .i64 3]) ?_ rfl ?_
    · simp [results, Try.results9, go_sem, r0, r1, r2, r3, r4, r5, r6, r7, r8, r9]
    · refine ReadPost.fault (.inr (.inr ⟨⟨h4, h8⟩, .inr ⟨HK.out, .inl ⟨rfl, rfl, HY.out⟩⟩⟩)) ?_
      repeat refine Below.setCell ?_ (by simp) _
      exact HW3.out
theorem eventread_impl (text : ByteArray) (w : World) : Calls Try.prog 9 #[.string text] w (ReadPost text w) := by
  by_cases h8 : (text.size : Int) > 8000
  · exact eventread_impl_no text w 2 (by decide) (.inl ⟨h8, rfl, rfl⟩) fun w => unseal_impl_big text w h8
  by_cases h4 : (text.size : Int) < 4
  · exact eventread_impl_no text w 4 (by decide) (.inr (.inl ⟨h4, rfl, rfl⟩)) fun w => unseal_impl_short text w h4
  cases hk : okS text
  · exact eventread_impl_no text w 5 (by decide) (.inr (.inr ⟨⟨by omega, by omega⟩, .inl ⟨hk, rfl, rfl⟩⟩)) fun w => unseal_impl_any text w (by omega) (by omega) ⟨#[]⟩ 5 (.inr ⟨hk, rfl, rfl⟩)
  · exact eventread_impl_ok text w (by omega) (by omega) hk
end Go.Proofs.Ytjdkenopfnepaaa
