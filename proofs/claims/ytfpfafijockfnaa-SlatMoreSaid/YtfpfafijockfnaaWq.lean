/- The law SlatMore: the walk. -/
import Derived.Test.YtfpfafijockfnaaWx
namespace Go.Proofs.Ytfpfafijockfnaa
open Go.RowKit Go.Shelf

theorem toldM {j : Jig} {a b : Slat} (hj : jigOk j = true) (ha : slatOk a = true) (hb : slatOk b = true) (o : Bool) (ho : o = true) : slErr j [a] [b] [] o = 0 := by
  subst ho
  unfold slErr
  simp [hj, ha, hb, limsOk]
theorem off_told {j : Jig} {a b : Slat} {g : Int} (hj : jigOk j = true) (ha : slatOk a = true) (hb : slatOk b = true) (h0 : 0 ≤ g) (h1 : g < j.grooves) (W : World) {s h : Span} (es : sideS j a b g = s) (eh : heightS j a b = h) :
    Calls Try.prog 19 #[.agg #[.int .i64 j.glue.lo, .int .i64 j.glue.hi, .int .i64 j.lead.lo, .int .i64 j.lead.hi, .int .i64 j.side.lo, .int .i64 j.side.hi, .int .i64 j.height.lo, .int .i64 j.height.hi, .int .i64 j.play, .int .i64 j.grooves], .agg #[.int .i64 a.thick.lo, .int .i64 a.thick.hi, .int .i64 a.depth.lo, .int .i64 a.depth.hi, .int .i64 a.shift.lo, .int .i64 a.shift.hi, .int .i64 a.pitch.lo, .int .i64 a.pitch.hi], .agg #[.int .i64 b.thick.lo, .int .i64 b.thick.hi, .int .i64 b.depth.lo, .int .i64 b.depth.hi, .int .i64 b.shift.lo, .int .i64 b.shift.hi, .int .i64 b.pitch.lo, .int .i64 b.pitch.hi], .int .i64 g] W (Ret (.tuple #[.agg #[.int .i64 s.lo, .int .i64 s.hi], .agg #[.int .i64 h.lo, .int .i64 h.hi], .int .i64 0]) W) := by
  have h9 := off5_any j a b g W
  have e9 : offE j a b g = 0 := toldM hj ha hb _ (fromB_iff.2 ⟨h0, by omega⟩)
  rw [show offS j a b g = sideS j a b g from if_pos e9, show offH j a b g = heightS j a b from if_pos e9, e9, es, eh] at h9
  exact h9
theorem closes_told {j : Jig} {a b : Slat} (hj : jigOk j = true) (ha : slatOk a = true) (hb : slatOk b = true) (W : World) :
    Calls Try.prog 22 #[.agg #[.int .i64 j.glue.lo, .int .i64 j.glue.hi, .int .i64 j.lead.lo, .int .i64 j.lead.hi, .int .i64 j.side.lo, .int .i64 j.side.hi, .int .i64 j.height.lo, .int .i64 j.height.hi, .int .i64 j.play, .int .i64 j.grooves], .agg #[.int .i64 a.thick.lo, .int .i64 a.thick.hi, .int .i64 a.depth.lo, .int .i64 a.depth.hi, .int .i64 a.shift.lo, .int .i64 a.shift.hi, .int .i64 a.pitch.lo, .int .i64 a.pitch.hi], .agg #[.int .i64 b.thick.lo, .int .i64 b.thick.hi, .int .i64 b.depth.lo, .int .i64 b.depth.hi, .int .i64 b.shift.lo, .int .i64 b.shift.hi, .int .i64 b.pitch.lo, .int .i64 b.pitch.hi]] W (Ret (.tuple #[.int .i64 (closesN j a b), .int .i64 0]) W) := by
  have h9 := closesN_any j a b W
  have e9 : cloE j a b = 0 := toldM hj ha hb true rfl
  rw [show cloN j a b = closesN j a b from if_pos e9, e9] at h9
  exact h9
theorem gra_none {j : Jig} {a b : Slat} {x : List Int} (h : graE j a b x ≠ 0) : graL j a b x = [] := by
  unfold graL
  split
  · rename_i h1
    exfalso
    apply h
    unfold graE
    rw [if_pos h1.1, if_pos h1.2]
  · rfl
/-- What lies in the boxes, and the slat and the jig that are narrower. -/
structure NrB (w : World) (j : Jig) (a b : Slat) (g24 g25 : Nat) (t : Jig) (s : Slat) (W : World) : Prop where
  of : MrB w j a b W
  k24 : Blk W g24 37 #[.int .i64 s.thick.lo, .int .i64 s.thick.hi, .int .i64 s.depth.lo, .int .i64 s.depth.hi, .int .i64 s.shift.lo, .int .i64 s.shift.hi, .int .i64 s.pitch.lo, .int .i64 s.pitch.hi]
  k25 : Blk W g25 25 #[.int .i64 t.glue.lo, .int .i64 t.glue.hi, .int .i64 t.lead.lo, .int .i64 t.lead.hi, .int .i64 t.side.lo, .int .i64 t.side.hi, .int .i64 t.height.lo, .int .i64 t.height.hi, .int .i64 t.play, .int .i64 t.grooves]
theorem NrB.call {w : World} {j : Jig} {a b : Slat} {g24 g25 : Nat} {t : Jig} {s : Slat} {W W' : World} (h : NrB w j a b g24 g25 t s W) (hb : Below W.heap.size W W') : NrB w j a b g24 g25 t s W' := ⟨h.of.call hb, h.k24.below hb h.k24.lt, h.k25.below hb h.k25.lt⟩
set_option maxRecDepth 100000 in
set_option maxHeartbeats 16000000 in
theorem more_loop2 (wc : World) (A1 A2 : Option Addr) (c1 c2 : Nat) (l1 l2 : List Int) (hl10 : (l1.length : Int) ≤ 10) (HLL : Hid (l1.length ≤ 10 ∧ ∀ k, k < l1.length → l2.length = l1.length ∧ ∀ u v : Int, l1[k]? = some u → l2[k]? = some v → u ≠ -1 → v ≠ -1 ∧ v ≤ u)) (HP1 : Hid (IntSl wc wc.heap.size A1 l1)) (HP2 : Hid (IntSl wc wc.heap.size A2 l2))
    (Q0 : Exit → Act → World → Prop) (hP0 : ∀ ch (a1 : Act) d v w1, Q0 (.panic ch) (a1.put d v) w1 → Q0 (.panic ch) a1 w1)
    (d0 d1 d2 d3 d4 d5 d6 d7 d8 d9 d10 d11 d12 d13 d14 d15 d16 d17 d18 d19 d20 d21 d22 d23 d24 d25 d26 d27 d28 d29 d30 d31 d32 d34 d36 d37 d38 d39 d40 d41 d42 d43 d44 d45 d46 d47 d48 d49 d50 d51 d52 d53 d54 d55 d56 d57 d58 d59 d60 d61 d62 d63 d64 d65 d66 d67 d68 d69 d70 d71 d72 d73 d74 d75 d76 d77 d78 d79 d80 d81 d82 d83 d84 d85 d86 d87 d88 d89 d90 d91 d92 d93 d94 d95 d96 d97 d98 d99 d100 d101 d102 d103 d104 d105 d106 d107 d108 d109 d110 d111 d112 d113 d114 d115 d116 d117 d118 d119 d120 d121 d122 d123 d124 d125 d126 d127 d128 d129 d130 d131 d132 d133 d134 d135 d136 d137 d138 d139 d140 d141 d142 d143 d144 d145 d146 d147 d148 d149 d150 d151 d152 d153 d154 d155 d156 d157 d158 d159 d160 d161 d162 d163 d164 d165 d166 d167 d168 d169 d170 d171 d172 d173 d174 d175 d176 d177 d178 d179 d180 d181 d182 d183 d184 d185 d186 d187 d188 d189 d190 d191 d192 d193 d194 d195 d196 d197 d198 d199 d200 d201 d202 d203 d204 d205 d206 d207 d208 d209 d210 d211 d212 d213 d214 d215 d216 d217 d218 d219 d220 d221 d222 d223 d224 d225 d226 d227 d228 d229 d230 d231 d232 d233 d234 d235 d236 d237 d238 d239 d240 d241 d242 d243 d244 d245 d246 d247 d248 d249 d250 d251 d252 d253 d254 d255 d256 d257 d258 d259 d260 d261 d262 d263 d264 d265 d266 d267 d268 d269 d270 d273 d274 d275 d276 d277 d278 d279 d280 d281 d282 d283 d284 d285 d286 d287 d288 d289 d290 d291 d292 d293 d294 d295 d296 d297 d298 d299 d300 d301 d302 d303 d304 d305 d306 d307 d308 d309 d310 d311 d312 d313 d314 d315 d316 d317 d318 d319 d320 d321 d322 d323 d324 d325 d326 d327 d328 d329 d330 d331 d332 d333 d334 d335 d336 d337 d338 d339 d340 d341 d342 d343 d344 d345 d346 d347 d348 d349 d350 d351 d352 d353 d354 d355 d356 d357 d358 d359 d360 d361 d362 d363 d364 d365 d366 d367 d368 d369 d370 d371 d372 d373 d374 d375 d376 d377 d378 d379 d380 d381 d382 d383 d384 d385 d386 d387 d388 d389 d390 d391 d392 d393 d394 d395 d396 d397 d398 d399 d400 d401 d402 d403 d404 d405 d406 d407 d408 d409 d410 d411 d412 d413 d414 d415 d416 d417 d418 d419 d420 : Value)
    (hexit : ∀ (u16 u37 u272 u273 u274 u275 u276 u277 u278 u279 u280 u281 u282 u283 u284 u285 u286 u287 u288 u289 u290 u291 u292 u293 u294 u295 u296 u297 u298 : Value) (w' : World), Hid (Below wc.heap.size wc w') → Q0 (.exit 0) ⟨List.toArray (d0 :: d1 :: d2 :: d3 :: d4 :: d5 :: d6 :: d7 :: d8 :: d9 :: d10 :: d11 :: d12 :: d13 :: d14 :: d15 :: u16 :: d17 :: d18 :: d19 :: d20 :: d21 :: d22 :: d23 :: d24 :: d25 :: d26 :: d27 :: d28 :: d29 :: d30 :: d31 :: d32 :: .slice A1 l1.length c1 :: d34 :: .slice A2 l2.length c2 :: d36 :: u37 :: d38 :: d39 :: d40 :: d41 :: d42 :: d43 :: d44 :: d45 :: d46 :: d47 :: d48 :: d49 :: d50 :: d51 :: d52 :: d53 :: d54 :: d55 :: d56 :: d57 :: d58 :: d59 :: d60 :: d61 :: d62 :: d63 :: d64 :: d65 :: d66 :: d67 :: d68 :: d69 :: d70 :: d71 :: d72 :: d73 :: d74 :: d75 :: d76 :: d77 :: d78 :: d79 :: d80 :: d81 :: d82 :: d83 :: d84 :: d85 :: d86 :: d87 :: d88 :: d89 :: d90 :: d91 :: d92 :: d93 :: d94 :: d95 :: d96 :: d97 :: d98 :: d99 :: d100 :: d101 :: d102 :: d103 :: d104 :: d105 :: d106 :: d107 :: d108 :: d109 :: d110 :: d111 :: d112 :: d113 :: d114 :: d115 :: d116 :: d117 :: d118 :: d119 :: d120 :: d121 :: d122 :: d123 :: d124 :: d125 :: d126 :: d127 :: d128 :: d129 :: d130 :: d131 :: d132 :: d133 :: d134 :: d135 :: d136 :: d137 :: d138 :: d139 :: d140 :: d141 :: d142 :: d143 :: d144 :: d145 :: d146 :: d147 :: d148 :: d149 :: d150 :: d151 :: d152 :: d153 :: d154 :: d155 :: d156 :: d157 :: d158 :: d159 :: d160 :: d161 :: d162 :: d163 :: d164 :: d165 :: d166 :: d167 :: d168 :: d169 :: d170 :: d171 :: d172 :: d173 :: d174 :: d175 :: d176 :: d177 :: d178 :: d179 :: d180 :: d181 :: d182 :: d183 :: d184 :: d185 :: d186 :: d187 :: d188 :: d189 :: d190 :: d191 :: d192 :: d193 :: d194 :: d195 :: d196 :: d197 :: d198 :: d199 :: d200 :: d201 :: d202 :: d203 :: d204 :: d205 :: d206 :: d207 :: d208 :: d209 :: d210 :: d211 :: d212 :: d213 :: d214 :: d215 :: d216 :: d217 :: d218 :: d219 :: d220 :: d221 :: d222 :: d223 :: d224 :: d225 :: d226 :: d227 :: d228 :: d229 :: d230 :: d231 :: d232 :: d233 :: d234 :: d235 :: d236 :: d237 :: d238 :: d239 :: d240 :: d241 :: d242 :: d243 :: d244 :: d245 :: d246 :: d247 :: d248 :: d249 :: d250 :: d251 :: d252 :: d253 :: d254 :: d255 :: d256 :: d257 :: d258 :: d259 :: d260 :: d261 :: d262 :: d263 :: d264 :: d265 :: d266 :: d267 :: d268 :: d269 :: d270 :: .int .i64 (l1.length : Int) :: u272 :: u273 :: u274 :: u275 :: u276 :: u277 :: u278 :: u279 :: u280 :: u281 :: u282 :: u283 :: u284 :: u285 :: u286 :: u287 :: u288 :: u289 :: u290 :: u291 :: u292 :: u293 :: u294 :: u295 :: u296 :: u297 :: u298 :: d299 :: d300 :: d301 :: d302 :: d303 :: d304 :: d305 :: d306 :: d307 :: d308 :: d309 :: d310 :: d311 :: d312 :: d313 :: d314 :: d315 :: d316 :: d317 :: d318 :: d319 :: d320 :: d321 :: d322 :: d323 :: d324 :: d325 :: d326 :: d327 :: d328 :: d329 :: d330 :: d331 :: d332 :: d333 :: d334 :: d335 :: d336 :: d337 :: d338 :: d339 :: d340 :: d341 :: d342 :: d343 :: d344 :: d345 :: d346 :: d347 :: d348 :: d349 :: d350 :: d351 :: d352 :: d353 :: d354 :: d355 :: d356 :: d357 :: d358 :: d359 :: d360 :: d361 :: d362 :: d363 :: d364 :: d365 :: d366 :: d367 :: d368 :: d369 :: d370 :: d371 :: d372 :: d373 :: d374 :: d375 :: d376 :: d377 :: d378 :: d379 :: d380 :: d381 :: d382 :: d383 :: d384 :: d385 :: d386 :: d387 :: d388 :: d389 :: d390 :: d391 :: d392 :: d393 :: d394 :: d395 :: d396 :: d397 :: d398 :: d399 :: d400 :: d401 :: d402 :: d403 :: d404 :: d405 :: d406 :: d407 :: d408 :: d409 :: d410 :: d411 :: d412 :: d413 :: d414 :: d415 :: d416 :: d417 :: d418 :: d419 :: d420 :: []), []⟩ w') :
    Code.wp Try.prog (Code.loop bodyM) Q0 ⟨List.toArray (d0 :: d1 :: d2 :: d3 :: d4 :: d5 :: d6 :: d7 :: d8 :: d9 :: d10 :: d11 :: d12 :: d13 :: d14 :: d15 :: d16 :: d17 :: d18 :: d19 :: d20 :: d21 :: d22 :: d23 :: d24 :: d25 :: d26 :: d27 :: d28 :: d29 :: d30 :: d31 :: d32 :: .slice A1 l1.length c1 :: d34 :: .slice A2 l2.length c2 :: d36 :: d37 :: d38 :: d39 :: d40 :: d41 :: d42 :: d43 :: d44 :: d45 :: d46 :: d47 :: d48 :: d49 :: d50 :: d51 :: d52 :: d53 :: d54 :: d55 :: d56 :: d57 :: d58 :: d59 :: d60 :: d61 :: d62 :: d63 :: d64 :: d65 :: d66 :: d67 :: d68 :: d69 :: d70 :: d71 :: d72 :: d73 :: d74 :: d75 :: d76 :: d77 :: d78 :: d79 :: d80 :: d81 :: d82 :: d83 :: d84 :: d85 :: d86 :: d87 :: d88 :: d89 :: d90 :: d91 :: d92 :: d93 :: d94 :: d95 :: d96 :: d97 :: d98 :: d99 :: d100 :: d101 :: d102 :: d103 :: d104 :: d105 :: d106 :: d107 :: d108 :: d109 :: d110 :: d111 :: d112 :: d113 :: d114 :: d115 :: d116 :: d117 :: d118 :: d119 :: d120 :: d121 :: d122 :: d123 :: d124 :: d125 :: d126 :: d127 :: d128 :: d129 :: d130 :: d131 :: d132 :: d133 :: d134 :: d135 :: d136 :: d137 :: d138 :: d139 :: d140 :: d141 :: d142 :: d143 :: d144 :: d145 :: d146 :: d147 :: d148 :: d149 :: d150 :: d151 :: d152 :: d153 :: d154 :: d155 :: d156 :: d157 :: d158 :: d159 :: d160 :: d161 :: d162 :: d163 :: d164 :: d165 :: d166 :: d167 :: d168 :: d169 :: d170 :: d171 :: d172 :: d173 :: d174 :: d175 :: d176 :: d177 :: d178 :: d179 :: d180 :: d181 :: d182 :: d183 :: d184 :: d185 :: d186 :: d187 :: d188 :: d189 :: d190 :: d191 :: d192 :: d193 :: d194 :: d195 :: d196 :: d197 :: d198 :: d199 :: d200 :: d201 :: d202 :: d203 :: d204 :: d205 :: d206 :: d207 :: d208 :: d209 :: d210 :: d211 :: d212 :: d213 :: d214 :: d215 :: d216 :: d217 :: d218 :: d219 :: d220 :: d221 :: d222 :: d223 :: d224 :: d225 :: d226 :: d227 :: d228 :: d229 :: d230 :: d231 :: d232 :: d233 :: d234 :: d235 :: d236 :: d237 :: d238 :: d239 :: d240 :: d241 :: d242 :: d243 :: d244 :: d245 :: d246 :: d247 :: d248 :: d249 :: d250 :: d251 :: d252 :: d253 :: d254 :: d255 :: d256 :: d257 :: d258 :: d259 :: d260 :: d261 :: d262 :: d263 :: d264 :: d265 :: d266 :: d267 :: d268 :: d269 :: d270 :: .int .i64 (l1.length : Int) :: .int .i64 0 :: d273 :: d274 :: d275 :: d276 :: d277 :: d278 :: d279 :: d280 :: d281 :: d282 :: d283 :: d284 :: d285 :: d286 :: d287 :: d288 :: d289 :: d290 :: d291 :: d292 :: d293 :: d294 :: d295 :: d296 :: d297 :: d298 :: d299 :: d300 :: d301 :: d302 :: d303 :: d304 :: d305 :: d306 :: d307 :: d308 :: d309 :: d310 :: d311 :: d312 :: d313 :: d314 :: d315 :: d316 :: d317 :: d318 :: d319 :: d320 :: d321 :: d322 :: d323 :: d324 :: d325 :: d326 :: d327 :: d328 :: d329 :: d330 :: d331 :: d332 :: d333 :: d334 :: d335 :: d336 :: d337 :: d338 :: d339 :: d340 :: d341 :: d342 :: d343 :: d344 :: d345 :: d346 :: d347 :: d348 :: d349 :: d350 :: d351 :: d352 :: d353 :: d354 :: d355 :: d356 :: d357 :: d358 :: d359 :: d360 :: d361 :: d362 :: d363 :: d364 :: d365 :: d366 :: d367 :: d368 :: d369 :: d370 :: d371 :: d372 :: d373 :: d374 :: d375 :: d376 :: d377 :: d378 :: d379 :: d380 :: d381 :: d382 :: d383 :: d384 :: d385 :: d386 :: d387 :: d388 :: d389 :: d390 :: d391 :: d392 :: d393 :: d394 :: d395 :: d396 :: d397 :: d398 :: d399 :: d400 :: d401 :: d402 :: d403 :: d404 :: d405 :: d406 :: d407 :: d408 :: d409 :: d410 :: d411 :: d412 :: d413 :: d414 :: d415 :: d416 :: d417 :: d418 :: d419 :: d420 :: []), []⟩ wc := by
  have HX := Lib.hid hexit
  have HP0 := Lib.hid hP0
  have hl00 : (0 : Int) ≤ l1.length := by omega
  clear hexit hP0
  conv => arg 2; arg 1; whnf
  go_loopw [272] (fun i wr => ∃ k : Nat, k ≤ l1.length ∧ i = .int .i64 k ∧ Hid (Below wc.heap.size wc wr)) (fun i _ => l1.length - (intOf i).toNat)
  case atStart => exact ⟨0, Nat.zero_le _, rfl, Lib.hid (Below.refl wc.heap.size wc)⟩
  case round =>
    obtain ⟨k, hk, rfl, HW⟩ := hrel
    by_cases hlt : k < l1.length
    · obtain ⟨hle, hno⟩ := HLL.out.2 k hlt
      have hlt2 : k < l2.length := by omega
      obtain ⟨ba, oa, rfl, hba, hca⟩ := HP1.out (by intro e; rw [e] at hlt; simp at hlt)
      obtain ⟨bb, ob, rfl, hbb, hcb⟩ := HP2.out (by intro e; rw [e] at hlt2; simp at hlt2)
      have x0 := hca k hlt
      have y0 := hcb k hlt2
      rw [← HW.out.cell (p := ⟨ba, _, none⟩) hba] at x0
      rw [← HW.out.cell (p := ⟨bb, _, none⟩) hbb] at y0
      replace hno := hno l1[k] l2[k] (List.getElem?_eq_getElem hlt) (List.getElem?_eq_getElem hlt2)
      have hkl : (k : Int) < l1.length := by omega
      have hkl2 : (k : Int) < l2.length := by omega
      have hk0 : (0 : Int) ≤ k := by omega
      generalize l1[k] = xa at *
      generalize l2[k] = xb at *
      clear hca hcb hle
      by_cases hx : xa = -1
      · have hxq : (xa == -1) = true := by rw [beq_iff_eq]; exact hx
        have hxn : (xa != -1) = false := by rw [bne, hxq]; rfl
        clear hno
        go_wp2_with fail
        have HS0 := Lib.hid (And.intro x0 y0)
        replace HW := Lib.hid (HW.out.trans ((Below.refl wr.heap.size wr).drew.mono HW.out.size))
        refine wp_region_held_drew (S := fun W9 => W9.cell? ⟨ba, oa + k, none⟩ = some (.int .i64 xa) ∧ W9.cell? ⟨bb, ob + k, none⟩ = some (.int .i64 xb)) (by kernel_rfl) ⟨HS0.out.1, HS0.out.2⟩ (fun hH0 => ?_)
        generalize World.drew _ = V0 at *
        simp only [List.size_toArray, List.length_cons, List.length_nil, Nat.reduceAdd, Array.replicate_succ, Array.replicate_zero, List.push_toArray, List.nil_append, List.cons_append]
        refine wpAnyH_take (i := 0 ) (v := ?_) rfl (by kernel_rfl) (by kernel_rfl) (by kernel_rfl) (fun _ _ _ h => HP0.out _ _ _ _ _ h) (Or.inl ⟨by rfl, ?_⟩) (by assumption) ?_; rotate_left; (· (intro w0 hSw; obtain ⟨q0, q1⟩ := hSw; go_simp); first | done | with_reducible rfl); (try simp only [Act.put, List.getElem_toArray, List.getElem_cons_zero, List.setIfInBounds_toArray, List.set_cons_zero, List.set_cons_succ])
        refine wpAnyH_take (i := 1 ) (v := ?_) rfl (by kernel_rfl) (by kernel_rfl) (by kernel_rfl) (fun _ _ _ h => HP0.out _ _ _ _ _ h) (Or.inl ⟨by rfl, ?_⟩) (by assumption) ?_; rotate_left; (· (intro w0 hSw; obtain ⟨q0, q1⟩ := hSw; go_simp); first | done | with_reducible rfl); (try simp only [Act.put, List.getElem_toArray, List.getElem_cons_succ, List.getElem_cons_zero, List.setIfInBounds_toArray, List.set_cons_zero, List.set_cons_succ])
        refine wpAnyH_take (i := 2 ) (v := ?_) rfl (by kernel_rfl) (by kernel_rfl) (by kernel_rfl) (fun _ _ _ h => HP0.out _ _ _ _ _ h) (Or.inl ⟨by rfl, ?_⟩) (by assumption) ?_; rotate_left; (· (intro w0 hSw; obtain ⟨q0, q1⟩ := hSw; go_simp); first | done | with_reducible rfl); (try simp only [Act.put, List.getElem_toArray, List.getElem_cons_succ, List.getElem_cons_zero, List.setIfInBounds_toArray, List.set_cons_zero, List.set_cons_succ])
        refine wpAnyH_take (i := 3 ) (v := ?_) rfl (by kernel_rfl) (by kernel_rfl) (by kernel_rfl) (fun _ _ _ h => HP0.out _ _ _ _ _ h) (Or.inl ⟨by rfl, ?_⟩) (by assumption) ?_; rotate_left; (· (intro w0 hSw; obtain ⟨q0, q1⟩ := hSw; go_simp); first | done | with_reducible rfl); (try simp only [Act.put, List.getElem_toArray, List.getElem_cons_succ, List.getElem_cons_zero, List.setIfInBounds_toArray, List.set_cons_zero, List.set_cons_succ])
        refine wpAnyH_take (i := 4 ) (v := ?_) rfl (by kernel_rfl) (by kernel_rfl) (by kernel_rfl) (fun _ _ _ h => HP0.out _ _ _ _ _ h) (Or.inl ⟨by rfl, ?_⟩) (by assumption) ?_; rotate_left; (· (intro w0 hSw; obtain ⟨q0, q1⟩ := hSw; go_simp); first | done | with_reducible rfl); (try simp only [Act.put, List.getElem_toArray, List.getElem_cons_succ, List.getElem_cons_zero, List.setIfInBounds_toArray, List.set_cons_zero, List.set_cons_succ])
        refine wpAnyH_take (i := 5 ) (v := ?_) rfl (by kernel_rfl) (by kernel_rfl) (by kernel_rfl) (fun _ _ _ h => HP0.out _ _ _ _ _ h) (Or.inl ⟨by rfl, ?_⟩) (by assumption) ?_; rotate_left; (· (intro w0 hSw; obtain ⟨q0, q1⟩ := hSw; go_simp); first | done | with_reducible rfl); (try simp only [Act.put, List.getElem_toArray, List.getElem_cons_succ, List.getElem_cons_zero, List.setIfInBounds_toArray, List.set_cons_zero, List.set_cons_succ])
        refine wpAnyH_take (i := 6) (v := undef) rfl (by kernel_rfl) (by kernel_rfl) (by kernel_rfl) (fun _ _ _ h => HP0.out _ _ _ _ _ h) (Or.inr ⟨by rfl, rfl⟩) (by assumption) ?_; (try simp only [Act.put, List.getElem_toArray, List.getElem_cons_succ, List.getElem_cons_zero, List.setIfInBounds_toArray, List.set_cons_zero, List.set_cons_succ])
        refine wpAnyH_take (i := 7) (v := undef) rfl (by kernel_rfl) (by kernel_rfl) (by kernel_rfl) (fun _ _ _ h => HP0.out _ _ _ _ _ h) (Or.inr ⟨by rfl, rfl⟩) (by assumption) ?_; (try simp only [Act.put, List.getElem_toArray, List.getElem_cons_succ, List.getElem_cons_zero, List.setIfInBounds_toArray, List.set_cons_zero, List.set_cons_succ])
        refine wpAnyH_take (i := 8) (v := undef) rfl (by kernel_rfl) (by kernel_rfl) (by kernel_rfl) (fun _ _ _ h => HP0.out _ _ _ _ _ h) (Or.inr ⟨by rfl, rfl⟩) (by assumption) ?_; (try simp only [Act.put, List.getElem_toArray, List.getElem_cons_succ, List.getElem_cons_zero, List.setIfInBounds_toArray, List.set_cons_zero, List.set_cons_succ])
        refine wpAnyH_take (i := 9) (v := undef) rfl (by kernel_rfl) (by kernel_rfl) (by kernel_rfl) (fun _ _ _ h => HP0.out _ _ _ _ _ h) (Or.inr ⟨by rfl, rfl⟩) (by assumption) ?_; (try simp only [Act.put, List.getElem_toArray, List.getElem_cons_succ, List.getElem_cons_zero, List.setIfInBounds_toArray, List.set_cons_zero, List.set_cons_succ])
        refine wpAnyH_take (i := 10) (v := undef) rfl (by kernel_rfl) (by kernel_rfl) (by kernel_rfl) (fun _ _ _ h => HP0.out _ _ _ _ _ h) (Or.inr ⟨by rfl, rfl⟩) (by assumption) ?_; (try simp only [Act.put, List.getElem_toArray, List.getElem_cons_succ, List.getElem_cons_zero, List.setIfInBounds_toArray, List.set_cons_zero, List.set_cons_succ])
        refine wpAnyH_take (i := 11) (v := undef) rfl (by kernel_rfl) (by kernel_rfl) (by kernel_rfl) (fun _ _ _ h => HP0.out _ _ _ _ _ h) (Or.inr ⟨by rfl, rfl⟩) (by assumption) ?_; (try simp only [Act.put, List.getElem_toArray, List.getElem_cons_succ, List.getElem_cons_zero, List.setIfInBounds_toArray, List.set_cons_zero, List.set_cons_succ])
        refine wpAnyH_take (i := 12) (v := undef) rfl (by kernel_rfl) (by kernel_rfl) (by kernel_rfl) (fun _ _ _ h => HP0.out _ _ _ _ _ h) (Or.inr ⟨by rfl, rfl⟩) (by assumption) ?_; (try simp only [Act.put, List.getElem_toArray, List.getElem_cons_succ, List.getElem_cons_zero, List.setIfInBounds_toArray, List.set_cons_zero, List.set_cons_succ])
        refine wpAnyH_take (i := 13) (v := undef) rfl (by kernel_rfl) (by kernel_rfl) (by kernel_rfl) (fun _ _ _ h => HP0.out _ _ _ _ _ h) (Or.inr ⟨by rfl, rfl⟩) (by assumption) ?_; (try simp only [Act.put, List.getElem_toArray, List.getElem_cons_succ, List.getElem_cons_zero, List.setIfInBounds_toArray, List.set_cons_zero, List.set_cons_succ])
        refine wpAnyH_take (i := 14) (v := undef) rfl (by kernel_rfl) (by kernel_rfl) (by kernel_rfl) (fun _ _ _ h => HP0.out _ _ _ _ _ h) (Or.inr ⟨by rfl, rfl⟩) (by assumption) ?_; (try simp only [Act.put, List.getElem_toArray, List.getElem_cons_succ, List.getElem_cons_zero, List.setIfInBounds_toArray, List.set_cons_zero, List.set_cons_succ])
        refine wpAnyH_take (i := 15) (v := undef) rfl (by kernel_rfl) (by kernel_rfl) (by kernel_rfl) (fun _ _ _ h => HP0.out _ _ _ _ _ h) (Or.inr ⟨by rfl, rfl⟩) (by assumption) ?_; (try simp only [Act.put, List.getElem_toArray, List.getElem_cons_succ, List.getElem_cons_zero, List.setIfInBounds_toArray, List.set_cons_zero, List.set_cons_succ])
        refine wpAnyH_take (i := 16) (v := undef) rfl (by kernel_rfl) (by kernel_rfl) (by kernel_rfl) (fun _ _ _ h => HP0.out _ _ _ _ _ h) (Or.inr ⟨by rfl, rfl⟩) (by assumption) ?_; (try simp only [Act.put, List.getElem_toArray, List.getElem_cons_succ, List.getElem_cons_zero, List.setIfInBounds_toArray, List.set_cons_zero, List.set_cons_succ])
        refine wpAnyH_take (i := 17) (v := undef) rfl (by kernel_rfl) (by kernel_rfl) (by kernel_rfl) (fun _ _ _ h => HP0.out _ _ _ _ _ h) (Or.inr ⟨by rfl, rfl⟩) (by assumption) ?_; (try simp only [Act.put, List.getElem_toArray, List.getElem_cons_succ, List.getElem_cons_zero, List.setIfInBounds_toArray, List.set_cons_zero, List.set_cons_succ])
        refine wpAnyH_take (i := 18) (v := undef) rfl (by kernel_rfl) (by kernel_rfl) (by kernel_rfl) (fun _ _ _ h => HP0.out _ _ _ _ _ h) (Or.inr ⟨by rfl, rfl⟩) (by assumption) ?_; (try simp only [Act.put, List.getElem_toArray, List.getElem_cons_succ, List.getElem_cons_zero, List.setIfInBounds_toArray, List.set_cons_zero, List.set_cons_succ])
        refine wpAnyH_take (i := 19) (v := undef) rfl (by kernel_rfl) (by kernel_rfl) (by kernel_rfl) (fun _ _ _ h => HP0.out _ _ _ _ _ h) (Or.inr ⟨by rfl, rfl⟩) (by assumption) ?_; (try simp only [Act.put, List.getElem_toArray, List.getElem_cons_succ, List.getElem_cons_zero, List.setIfInBounds_toArray, List.set_cons_zero, List.set_cons_succ])
        refine wpAnyH_take (i := 20) (v := undef) rfl (by kernel_rfl) (by kernel_rfl) (by kernel_rfl) (fun _ _ _ h => HP0.out _ _ _ _ _ h) (Or.inr ⟨by rfl, rfl⟩) (by assumption) ?_; (try simp only [Act.put, List.getElem_toArray, List.getElem_cons_succ, List.getElem_cons_zero, List.setIfInBounds_toArray, List.set_cons_zero, List.set_cons_succ])
        refine wpAnyH_take (i := 21) (v := undef) rfl (by kernel_rfl) (by kernel_rfl) (by kernel_rfl) (fun _ _ _ h => HP0.out _ _ _ _ _ h) (Or.inr ⟨by rfl, rfl⟩) (by assumption) ?_; (try simp only [Act.put, List.getElem_toArray, List.getElem_cons_succ, List.getElem_cons_zero, List.setIfInBounds_toArray, List.set_cons_zero, List.set_cons_succ])
        refine wpAnyH_take (i := 22 ) (v := ?_) rfl (by kernel_rfl) (by kernel_rfl) (by kernel_rfl) (fun _ _ _ h => HP0.out _ _ _ _ _ h) (Or.inl ⟨by rfl, ?_⟩) (by assumption) ?_; rotate_left; (· (intro w0 hSw; obtain ⟨q0, q1⟩ := hSw; go_simp); first | done | with_reducible rfl); (try simp only [Act.put, List.getElem_toArray, List.getElem_cons_succ, List.getElem_cons_zero, List.setIfInBounds_toArray, List.set_cons_zero, List.set_cons_succ])
        refine wpAnyH_done (by kernel_rfl) ?_ _
        go_wp2_with fail
        go_roundw
        case rel => exact ⟨k + 1, by omega, by go_num, HW⟩
        case measure => first | exact meas_lt hlt | (simp [intOf]; omega)
      · obtain ⟨hb1, hb2⟩ := hno hx
        have hxq : (xa == -1) = false := by rw [beq_eq_false_iff_ne]; exact hx
        have hxn : (xa != -1) = true := by rw [bne, hxq]; rfl
        have hyq : (xb == -1) = false := by rw [beq_eq_false_iff_ne]; exact hb1
        have hlx : ¬ xa < xb := by omega
        go_wp2_with fail
        have HS0 := Lib.hid (And.intro x0 y0)
        replace HW := Lib.hid (HW.out.trans ((Below.refl wr.heap.size wr).drew.mono HW.out.size))
        refine wp_region_held_drew (S := fun W9 => W9.cell? ⟨ba, oa + k, none⟩ = some (.int .i64 xa) ∧ W9.cell? ⟨bb, ob + k, none⟩ = some (.int .i64 xb)) (by kernel_rfl) ⟨HS0.out.1, HS0.out.2⟩ (fun hH0 => ?_)
        generalize World.drew _ = V0 at *
        simp only [List.size_toArray, List.length_cons, List.length_nil, Nat.reduceAdd, Array.replicate_succ, Array.replicate_zero, List.push_toArray, List.nil_append, List.cons_append]
        refine wpAnyH_take (i := 0 ) (v := ?_) rfl (by kernel_rfl) (by kernel_rfl) (by kernel_rfl) (fun _ _ _ h => HP0.out _ _ _ _ _ h) (Or.inl ⟨by rfl, ?_⟩) (by assumption) ?_; rotate_left; (· (intro w0 hSw; obtain ⟨q0, q1⟩ := hSw; go_simp); first | done | with_reducible rfl); (try simp only [Act.put, List.getElem_toArray, List.getElem_cons_zero, List.setIfInBounds_toArray, List.set_cons_zero, List.set_cons_succ])
        refine wpAnyH_take (i := 1 ) (v := ?_) rfl (by kernel_rfl) (by kernel_rfl) (by kernel_rfl) (fun _ _ _ h => HP0.out _ _ _ _ _ h) (Or.inl ⟨by rfl, ?_⟩) (by assumption) ?_; rotate_left; (· (intro w0 hSw; obtain ⟨q0, q1⟩ := hSw; go_simp); first | done | with_reducible rfl); (try simp only [Act.put, List.getElem_toArray, List.getElem_cons_succ, List.getElem_cons_zero, List.setIfInBounds_toArray, List.set_cons_zero, List.set_cons_succ])
        refine wpAnyH_take (i := 2 ) (v := ?_) rfl (by kernel_rfl) (by kernel_rfl) (by kernel_rfl) (fun _ _ _ h => HP0.out _ _ _ _ _ h) (Or.inl ⟨by rfl, ?_⟩) (by assumption) ?_; rotate_left; (· (intro w0 hSw; obtain ⟨q0, q1⟩ := hSw; go_simp); first | done | with_reducible rfl); (try simp only [Act.put, List.getElem_toArray, List.getElem_cons_succ, List.getElem_cons_zero, List.setIfInBounds_toArray, List.set_cons_zero, List.set_cons_succ])
        refine wpAnyH_take (i := 3 ) (v := ?_) rfl (by kernel_rfl) (by kernel_rfl) (by kernel_rfl) (fun _ _ _ h => HP0.out _ _ _ _ _ h) (Or.inl ⟨by rfl, ?_⟩) (by assumption) ?_; rotate_left; (· (intro w0 hSw; obtain ⟨q0, q1⟩ := hSw; go_simp); first | done | with_reducible rfl); (try simp only [Act.put, List.getElem_toArray, List.getElem_cons_succ, List.getElem_cons_zero, List.setIfInBounds_toArray, List.set_cons_zero, List.set_cons_succ])
        refine wpAnyH_take (i := 4 ) (v := ?_) rfl (by kernel_rfl) (by kernel_rfl) (by kernel_rfl) (fun _ _ _ h => HP0.out _ _ _ _ _ h) (Or.inl ⟨by rfl, ?_⟩) (by assumption) ?_; rotate_left; (· (intro w0 hSw; obtain ⟨q0, q1⟩ := hSw; go_simp); first | done | with_reducible rfl); (try simp only [Act.put, List.getElem_toArray, List.getElem_cons_succ, List.getElem_cons_zero, List.setIfInBounds_toArray, List.set_cons_zero, List.set_cons_succ])
        refine wpAnyH_take (i := 5 ) (v := ?_) rfl (by kernel_rfl) (by kernel_rfl) (by kernel_rfl) (fun _ _ _ h => HP0.out _ _ _ _ _ h) (Or.inl ⟨by rfl, ?_⟩) (by assumption) ?_; rotate_left; (· (intro w0 hSw; obtain ⟨q0, q1⟩ := hSw; go_simp); first | done | with_reducible rfl); (try simp only [Act.put, List.getElem_toArray, List.getElem_cons_succ, List.getElem_cons_zero, List.setIfInBounds_toArray, List.set_cons_zero, List.set_cons_succ])
        refine wpAnyH_take (i := 6 ) (v := ?_) rfl (by kernel_rfl) (by kernel_rfl) (by kernel_rfl) (fun _ _ _ h => HP0.out _ _ _ _ _ h) (Or.inl ⟨by rfl, ?_⟩) (by assumption) ?_; rotate_left; (· (intro w0 hSw; obtain ⟨q0, q1⟩ := hSw; go_simp); first | done | with_reducible rfl); (try simp only [Act.put, List.getElem_toArray, List.getElem_cons_succ, List.getElem_cons_zero, List.setIfInBounds_toArray, List.set_cons_zero, List.set_cons_succ])
        refine wpAnyH_take (i := 7 ) (v := ?_) rfl (by kernel_rfl) (by kernel_rfl) (by kernel_rfl) (fun _ _ _ h => HP0.out _ _ _ _ _ h) (Or.inl ⟨by rfl, ?_⟩) (by assumption) ?_; rotate_left; (· (intro w0 hSw; obtain ⟨q0, q1⟩ := hSw; go_simp); first | done | with_reducible rfl); (try simp only [Act.put, List.getElem_toArray, List.getElem_cons_succ, List.getElem_cons_zero, List.setIfInBounds_toArray, List.set_cons_zero, List.set_cons_succ])
        refine wpAnyH_take (i := 8 ) (v := ?_) rfl (by kernel_rfl) (by kernel_rfl) (by kernel_rfl) (fun _ _ _ h => HP0.out _ _ _ _ _ h) (Or.inl ⟨by rfl, ?_⟩) (by assumption) ?_; rotate_left; (· (intro w0 hSw; obtain ⟨q0, q1⟩ := hSw; go_simp); first | done | with_reducible rfl); (try simp only [Act.put, List.getElem_toArray, List.getElem_cons_succ, List.getElem_cons_zero, List.setIfInBounds_toArray, List.set_cons_zero, List.set_cons_succ])
        refine wpAnyH_take (i := 9 ) (v := ?_) rfl (by kernel_rfl) (by kernel_rfl) (by kernel_rfl) (fun _ _ _ h => HP0.out _ _ _ _ _ h) (Or.inl ⟨by rfl, ?_⟩) (by assumption) ?_; rotate_left; (· (intro w0 hSw; obtain ⟨q0, q1⟩ := hSw; go_simp); first | done | with_reducible rfl); (try simp only [Act.put, List.getElem_toArray, List.getElem_cons_succ, List.getElem_cons_zero, List.setIfInBounds_toArray, List.set_cons_zero, List.set_cons_succ])
        refine wpAnyH_take (i := 10 ) (v := ?_) rfl (by kernel_rfl) (by kernel_rfl) (by kernel_rfl) (fun _ _ _ h => HP0.out _ _ _ _ _ h) (Or.inl ⟨by rfl, ?_⟩) (by assumption) ?_; rotate_left; (· (intro w0 hSw; obtain ⟨q0, q1⟩ := hSw; go_simp); first | done | with_reducible rfl); (try simp only [Act.put, List.getElem_toArray, List.getElem_cons_succ, List.getElem_cons_zero, List.setIfInBounds_toArray, List.set_cons_zero, List.set_cons_succ])
        refine wpAnyH_take (i := 11 ) (v := ?_) rfl (by kernel_rfl) (by kernel_rfl) (by kernel_rfl) (fun _ _ _ h => HP0.out _ _ _ _ _ h) (Or.inl ⟨by rfl, ?_⟩) (by assumption) ?_; rotate_left; (· (intro w0 hSw; obtain ⟨q0, q1⟩ := hSw; go_simp); first | done | with_reducible rfl); (try simp only [Act.put, List.getElem_toArray, List.getElem_cons_succ, List.getElem_cons_zero, List.setIfInBounds_toArray, List.set_cons_zero, List.set_cons_succ])
        refine wpAnyH_take (i := 12 ) (v := ?_) rfl (by kernel_rfl) (by kernel_rfl) (by kernel_rfl) (fun _ _ _ h => HP0.out _ _ _ _ _ h) (Or.inl ⟨by rfl, ?_⟩) (by assumption) ?_; rotate_left; (· (intro w0 hSw; obtain ⟨q0, q1⟩ := hSw; go_simp); first | done | with_reducible rfl); (try simp only [Act.put, List.getElem_toArray, List.getElem_cons_succ, List.getElem_cons_zero, List.setIfInBounds_toArray, List.set_cons_zero, List.set_cons_succ])
        refine wpAnyH_take (i := 13 ) (v := ?_) rfl (by kernel_rfl) (by kernel_rfl) (by kernel_rfl) (fun _ _ _ h => HP0.out _ _ _ _ _ h) (Or.inl ⟨by rfl, ?_⟩) (by assumption) ?_; rotate_left; (· (intro w0 hSw; obtain ⟨q0, q1⟩ := hSw; go_simp); first | done | with_reducible rfl); (try simp only [Act.put, List.getElem_toArray, List.getElem_cons_succ, List.getElem_cons_zero, List.setIfInBounds_toArray, List.set_cons_zero, List.set_cons_succ])
        refine wpAnyH_take (i := 14 ) (v := ?_) rfl (by kernel_rfl) (by kernel_rfl) (by kernel_rfl) (fun _ _ _ h => HP0.out _ _ _ _ _ h) (Or.inl ⟨by rfl, ?_⟩) (by assumption) ?_; rotate_left; (· (intro w0 hSw; obtain ⟨q0, q1⟩ := hSw; go_simp); first | done | with_reducible rfl); (try simp only [Act.put, List.getElem_toArray, List.getElem_cons_succ, List.getElem_cons_zero, List.setIfInBounds_toArray, List.set_cons_zero, List.set_cons_succ])
        refine wpAnyH_take (i := 15 ) (v := ?_) rfl (by kernel_rfl) (by kernel_rfl) (by kernel_rfl) (fun _ _ _ h => HP0.out _ _ _ _ _ h) (Or.inl ⟨by rfl, ?_⟩) (by assumption) ?_; rotate_left; (· (intro w0 hSw; obtain ⟨q0, q1⟩ := hSw; go_simp); first | done | with_reducible rfl); (try simp only [Act.put, List.getElem_toArray, List.getElem_cons_succ, List.getElem_cons_zero, List.setIfInBounds_toArray, List.set_cons_zero, List.set_cons_succ])
        refine wpAnyH_take (i := 16 ) (v := ?_) rfl (by kernel_rfl) (by kernel_rfl) (by kernel_rfl) (fun _ _ _ h => HP0.out _ _ _ _ _ h) (Or.inl ⟨by rfl, ?_⟩) (by assumption) ?_; rotate_left; (· (intro w0 hSw; obtain ⟨q0, q1⟩ := hSw; go_simp); first | done | with_reducible rfl); (try simp only [Act.put, List.getElem_toArray, List.getElem_cons_succ, List.getElem_cons_zero, List.setIfInBounds_toArray, List.set_cons_zero, List.set_cons_succ])
        refine wpAnyH_take (i := 17 ) (v := ?_) rfl (by kernel_rfl) (by kernel_rfl) (by kernel_rfl) (fun _ _ _ h => HP0.out _ _ _ _ _ h) (Or.inl ⟨by rfl, ?_⟩) (by assumption) ?_; rotate_left; (· (intro w0 hSw; obtain ⟨q0, q1⟩ := hSw; go_simp); first | done | with_reducible rfl); (try simp only [Act.put, List.getElem_toArray, List.getElem_cons_succ, List.getElem_cons_zero, List.setIfInBounds_toArray, List.set_cons_zero, List.set_cons_succ])
        refine wpAnyH_take (i := 18 ) (v := ?_) rfl (by kernel_rfl) (by kernel_rfl) (by kernel_rfl) (fun _ _ _ h => HP0.out _ _ _ _ _ h) (Or.inl ⟨by rfl, ?_⟩) (by assumption) ?_; rotate_left; (· (intro w0 hSw; obtain ⟨q0, q1⟩ := hSw; go_simp); first | done | with_reducible rfl); (try simp only [Act.put, List.getElem_toArray, List.getElem_cons_succ, List.getElem_cons_zero, List.setIfInBounds_toArray, List.set_cons_zero, List.set_cons_succ])
        refine wpAnyH_take (i := 19 ) (v := ?_) rfl (by kernel_rfl) (by kernel_rfl) (by kernel_rfl) (fun _ _ _ h => HP0.out _ _ _ _ _ h) (Or.inl ⟨by rfl, ?_⟩) (by assumption) ?_; rotate_left; (· (intro w0 hSw; obtain ⟨q0, q1⟩ := hSw; go_simp); first | done | with_reducible rfl); (try simp only [Act.put, List.getElem_toArray, List.getElem_cons_succ, List.getElem_cons_zero, List.setIfInBounds_toArray, List.set_cons_zero, List.set_cons_succ])
        refine wpAnyH_take (i := 20 ) (v := ?_) rfl (by kernel_rfl) (by kernel_rfl) (by kernel_rfl) (fun _ _ _ h => HP0.out _ _ _ _ _ h) (Or.inl ⟨by rfl, ?_⟩) (by assumption) ?_; rotate_left; (· (intro w0 hSw; obtain ⟨q0, q1⟩ := hSw; go_simp); first | done | with_reducible rfl); (try simp only [Act.put, List.getElem_toArray, List.getElem_cons_succ, List.getElem_cons_zero, List.setIfInBounds_toArray, List.set_cons_zero, List.set_cons_succ])
        refine wpAnyH_take (i := 21 ) (v := ?_) rfl (by kernel_rfl) (by kernel_rfl) (by kernel_rfl) (fun _ _ _ h => HP0.out _ _ _ _ _ h) (Or.inl ⟨by rfl, ?_⟩) (by assumption) ?_; rotate_left; (· (intro w0 hSw; obtain ⟨q0, q1⟩ := hSw; go_simp); first | done | with_reducible rfl); (try simp only [Act.put, List.getElem_toArray, List.getElem_cons_succ, List.getElem_cons_zero, List.setIfInBounds_toArray, List.set_cons_zero, List.set_cons_succ])
        refine wpAnyH_take (i := 22 ) (v := ?_) rfl (by kernel_rfl) (by kernel_rfl) (by kernel_rfl) (fun _ _ _ h => HP0.out _ _ _ _ _ h) (Or.inl ⟨by rfl, ?_⟩) (by assumption) ?_; rotate_left; (· (intro w0 hSw; obtain ⟨q0, q1⟩ := hSw; go_simp); first | done | with_reducible rfl); (try simp only [Act.put, List.getElem_toArray, List.getElem_cons_succ, List.getElem_cons_zero, List.setIfInBounds_toArray, List.set_cons_zero, List.set_cons_succ])
        refine wpAnyH_done (by kernel_rfl) ?_ _
        go_wp2_with fail
        go_roundw
        case rel => exact ⟨k + 1, by omega, by go_num, HW⟩
        case measure => first | exact meas_lt hlt | (simp [intOf]; omega)
    · obtain rfl : l1.length = k := by omega
      have hlt' : ¬ (l1.length : Int) < l1.length := by omega
      go_wp2_with fail
      exact HX.out _ _ _ _ _ _ _ _ _ _ _ _ _ _ _ _ _ _ _ _ _ _ _ _ _ _ _ _ _ _ HW
set_option maxRecDepth 100000 in
set_option maxHeartbeats 16000000 in
theorem more05_any (w : World) (C A B : Option Addr) (cx ca cb : Nat) (j : Jig) (a b : Slat) (x : List Int) (l u : List Slat) (lim y : Int) (hx : x.length ≤ 9223372036854775807) (h1 : l.length ≤ 9223372036854775807) (h2 : u.length ≤ 9223372036854775807) (hC : IntSl w w.heap.size C x) (hA : SlatSl w w.heap.size A l) (hB : SlatSl w w.heap.size B u) (hAn : A = none → l.length = 0 ∧ ca = 0) (hBn : B = none → u.length = 0 ∧ cb = 0) (hy : 0 ≤ y ∧ y ≤ 255) :
    Calls Try.prog 9 #[.agg #[.int .i64 j.glue.lo, .int .i64 j.glue.hi, .int .i64 j.lead.lo, .int .i64 j.lead.hi, .int .i64 j.side.lo, .int .i64 j.side.hi, .int .i64 j.height.lo, .int .i64 j.height.hi, .int .i64 j.play, .int .i64 j.grooves], .agg #[.int .i64 a.thick.lo, .int .i64 a.thick.hi, .int .i64 a.depth.lo, .int .i64 a.depth.hi, .int .i64 a.shift.lo, .int .i64 a.shift.hi, .int .i64 a.pitch.lo, .int .i64 a.pitch.hi], .agg #[.int .i64 b.thick.lo, .int .i64 b.thick.hi, .int .i64 b.depth.lo, .int .i64 b.depth.hi, .int .i64 b.shift.lo, .int .i64 b.shift.hi, .int .i64 b.pitch.lo, .int .i64 b.pitch.hi], .slice C x.length cx, .slice A l.length ca, .slice B u.length cb, .int .i64 lim, .int .u8 y] w (Ret (.bool true) w) := by
  have HC := Lib.hid hC
  have HA := Lib.hid hA
  have HBB := Lib.hid hB
  have HAN := Lib.hid hAn
  have HBN := Lib.hid hBn
  have HLEN := Lib.hid (And.intro hx (And.intro h1 h2))
  have HY := Lib.hid hy
  have hx' : (x.length : Int) ≤ 9223372036854775807 := by omega
  have hx0 : (0 : Int) ≤ x.length := by omega
  have hl' : (l.length : Int) ≤ 9223372036854775807 := by omega
  have hl0 : (0 : Int) ≤ l.length := by omega
  have hu' : (u.length : Int) ≤ 9223372036854775807 := by omega
  have hu0 : (0 : Int) ≤ u.length := by omega
  have HS := Lib.hid (MrB.start w j a b)
  clear hC hA hB hAn hBn hx h1 h2 hy
  go_enter Try.func9, Try.ntmps9
  go_upto_region 1 with fail
  generalize World.alloc (World.alloc (World.alloc w _) _) _ = V at HS ⊢
  by_cases c1 : 14 < x.length
  · have c1' : (14 : Int) < x.length := by omega
    go_wp2_with fail
    refine (alive05_any _).mono ?_; rintro e w9 ⟨rfl, hb9⟩; have HB9 := Lib.hid (HS.out.hb.trans (hb9.mono HS.out.hb.size)); clear HS hb9; go_wp2_with fail; go_ret; exact ⟨rfl, HB9.out⟩
  · have c1' : ¬ (14 : Int) < x.length := by omega
    by_cases c2 : 7 ≤ l.length
    · have c2' : (7 : Int) ≤ l.length := by omega
      go_wp2_with fail
      refine (alive05_any _).mono ?_; rintro e w9 ⟨rfl, hb9⟩; have HB9 := Lib.hid (HS.out.hb.trans (hb9.mono HS.out.hb.size)); clear HS hb9; go_wp2_with fail; go_ret; exact ⟨rfl, HB9.out⟩
    · have c2' : ¬ (7 : Int) ≤ l.length := by omega
      by_cases c3 : 7 ≤ u.length
      · have c3' : (7 : Int) ≤ u.length := by omega
        go_wp2_with fail
        refine (alive05_any _).mono ?_; rintro e w9 ⟨rfl, hb9⟩; have HB9 := Lib.hid (HS.out.hb.trans (hb9.mono HS.out.hb.size)); clear HS hb9; go_wp2_with fail; go_ret; exact ⟨rfl, HB9.out⟩
      · have c3' : ¬ (7 : Int) ≤ u.length := by omega
        have jc0 := HS.out.k4.cell 0
        have jc1 := HS.out.k4.cell 1
        have jc2 := HS.out.k4.cell 2
        have jc3 := HS.out.k4.cell 3
        have jc4 := HS.out.k4.cell 4
        have jc5 := HS.out.k4.cell 5
        have jc6 := HS.out.k4.cell 6
        have jc7 := HS.out.k4.cell 7
        have jc8 := HS.out.k4.cell 8
        have jc9 := HS.out.k4.cell 9
        go_wp2_with fail
        refine (rjig5_any j _).mono ?_
        rintro e W1 ⟨rfl, hb⟩
        replace HS := Lib.hid (HS.out.call hb)
        clear hb
        clear jc0 jc1 jc2 jc3 jc4 jc5 jc6 jc7 jc8 jc9
        cases hjk : jigOk j with
        | false =>
          go_wp2_with fail
          refine (alive05_any _).mono ?_; rintro e w9 ⟨rfl, hb9⟩; have HB9 := Lib.hid (HS.out.hb.trans (hb9.mono HS.out.hb.size)); clear HS hb9; go_wp2_with fail; go_ret; exact ⟨rfl, HB9.out⟩
        | true =>
          have sc0 := HS.out.k5.cell 0
          have sc1 := HS.out.k5.cell 1
          have sc2 := HS.out.k5.cell 2
          have sc3 := HS.out.k5.cell 3
          have sc4 := HS.out.k5.cell 4
          have sc5 := HS.out.k5.cell 5
          have sc6 := HS.out.k5.cell 6
          have sc7 := HS.out.k5.cell 7
          go_wp2_with fail
          refine (rslat5_any a _).mono ?_
          rintro e W2 ⟨rfl, hb⟩
          replace HS := Lib.hid (HS.out.call hb)
          clear hb
          clear sc0 sc1 sc2 sc3 sc4 sc5 sc6 sc7
          cases hak : slatOk a with
          | false =>
            go_wp2_with fail
            refine (alive05_any _).mono ?_; rintro e w9 ⟨rfl, hb9⟩; have HB9 := Lib.hid (HS.out.hb.trans (hb9.mono HS.out.hb.size)); clear HS hb9; go_wp2_with fail; go_ret; exact ⟨rfl, HB9.out⟩
          | true =>
            have sc0 := HS.out.k6.cell 0
            have sc1 := HS.out.k6.cell 1
            have sc2 := HS.out.k6.cell 2
            have sc3 := HS.out.k6.cell 3
            have sc4 := HS.out.k6.cell 4
            have sc5 := HS.out.k6.cell 5
            have sc6 := HS.out.k6.cell 6
            have sc7 := HS.out.k6.cell 7
            go_wp2_with fail
            refine (rslat5_any b _).mono ?_
            rintro e W3 ⟨rfl, hb⟩
            replace HS := Lib.hid (HS.out.call hb)
            clear hb
            clear sc0 sc1 sc2 sc3 sc4 sc5 sc6 sc7
            cases hbk : slatOk b with
            | false =>
              go_wp2_with fail
              refine (alive05_any _).mono ?_; rintro e w9 ⟨rfl, hb9⟩; have HB9 := Lib.hid (HS.out.hb.trans (hb9.mono HS.out.hb.size)); clear HS hb9; go_wp2_with fail; go_ret; exact ⟨rfl, HB9.out⟩
            | true =>
              have HOK := Lib.hid (And.intro hjk (And.intro hak hbk))
              have HI := Lib.hid (And.intro (jigIn_of hjk) (And.intro (slatIn_of hak) (slatIn_of hbk)))
              have hn0 := (jigIn_of hjk).n0
              have hn1 := (jigIn_of hjk).n1
              have hy := HY.out
              have wy : IntKind.i64.wrap y = y := IntWalk.i64_in _ ⟨by omega, by omega⟩
              have ry : y.tmod j.grooves = y % j.grooves := Int.tmod_eq_emod_of_nonneg hy.1
              have hg0 := Int.emod_nonneg y (show j.grooves ≠ 0 by omega)
              have hg1 := Int.emod_lt_of_pos y (show 0 < j.grooves by omega)
              have hnz : (j.grooves == 0) = false := by rw [beq_eq_false_iff_ne]; omega
              have hnz2 : j.grooves ≠ 0 := by omega
              obtain ⟨g, hg⟩ : ∃ g, y % j.grooves = g := ⟨_, rfl⟩
              rw [hg] at hg0 hg1
              have wg : IntKind.i64.wrap g = g := IntWalk.i64_in _ ⟨by omega, by omega⟩
              obtain ⟨sS, hsS⟩ : ∃ v, sideS j a b g = v := ⟨_, rfl⟩
              obtain ⟨hH, hhH⟩ : ∃ v, heightS j a b = v := ⟨_, rfl⟩
              obtain ⟨h2H, hh2⟩ : ∃ v, heightS j b a = v := ⟨_, rfl⟩
              have HO1 := Lib.hid fun W => off_told hjk hak hbk hg0 hg1 W hsS hhH
              have HO2 := Lib.hid fun W => off_told hjk hbk hak hg0 hg1 W ((side_swap g).trans hsS) hh2
              obtain ⟨n9, hn9⟩ : ∃ v, y % 9 = v := ⟨_, rfl⟩
              obtain ⟨n5, hn5⟩ : ∃ v, y % 5 = v := ⟨_, rfl⟩
              obtain ⟨n7, hn7⟩ : ∃ v, y % 7 = v := ⟨_, rfl⟩
              obtain ⟨n3, hn3⟩ : ∃ v, y % 3 = v := ⟨_, rfl⟩
              have HNB : Hid ((0 ≤ n9 ∧ n9 ≤ 8) ∧ (0 ≤ n5 ∧ n5 ≤ 4) ∧ (0 ≤ n7 ∧ n7 ≤ 6) ∧ 0 ≤ n3 ∧ n3 ≤ 2) := Lib.hid (by omega)
              have HRY : Hid (y.tmod 9 = n9 ∧ y.tmod 5 = n5 ∧ y.tmod 7 = n7 ∧ y.tmod 3 = n3) := Lib.hid (by
                rw [Int.tmod_eq_emod_of_nonneg hy.1, Int.tmod_eq_emod_of_nonneg hy.1, Int.tmod_eq_emod_of_nonneg hy.1, Int.tmod_eq_emod_of_nonneg hy.1]
                exact ⟨hn9, hn5, hn7, hn3⟩)
              have HT := Lib.hid (tight_ok hjk HNB.out.2.2.1.1 HNB.out.2.2.2.1)
              have HTH := Lib.hid (thin_ok hak HNB.out.1.1 HNB.out.2.1.1)
              have HSI := Lib.hid (nar_side (b := b) HI.out.1 HI.out.2.1 HNB.out.1.1 HNB.out.2.1.1 HNB.out.2.2.1.1 HNB.out.2.2.2.1 g)
              have HHI := Lib.hid (nar_high (b := b) HI.out.1 HI.out.2.1 HNB.out.1.1 HNB.out.2.1.1 HNB.out.2.2.1.1 HNB.out.2.2.2.1)
              have HCL := Lib.hid (nar_closes (b := b) (jigIn_of HT.out) (slatIn_of HTH.out) HI.out.2.2 HI.out.1 HI.out.2.1 HNB.out.2.1.1 HNB.out.2.2.1.1)
              have HGN := Lib.hid (nar_grades (x := x) hjk hak hbk HNB.out.1.1 HNB.out.2.1.1 HNB.out.2.2.1.1 HNB.out.2.2.2.1)
              rw [hsS] at HSI
              rw [hhH] at HHI
              obtain ⟨tS, htS⟩ : ∃ v, sideS (tightJ j n7 n3) (thinS a n9 n5) b g = v := ⟨_, rfl⟩
              obtain ⟨tH, htH⟩ : ∃ v, heightS (tightJ j n7 n3) (thinS a n9 n5) b = v := ⟨_, rfl⟩
              have HO3 := Lib.hid fun W => off_told HT.out HTH.out hbk hg0 (show g < (tightJ j n7 n3).grooves from hg1) W htS htH
              rw [htS] at HSI
              rw [htH] at HHI
              have HWR : Hid (IntKind.i64.wrap n9 = n9 ∧ IntKind.i64.wrap n5 = n5 ∧ IntKind.i64.wrap n7 = n7 ∧ IntKind.i64.wrap n3 = n3 ∧ IntKind.i64.wrap (a.thick.hi - n9) = a.thick.hi - n9 ∧ IntKind.i64.wrap (a.shift.lo + n5) = a.shift.lo + n5 ∧ IntKind.i64.wrap (j.glue.lo + n7) = j.glue.lo + n7 ∧ IntKind.i64.wrap (j.side.hi - n3) = j.side.hi - n3) := Lib.hid (by
                obtain ⟨⟨jg0, jg1, jg2, jl0, jl1, jl2, js0, js1, js2, jh0, jh1, jh2, jp0, jp1, jn0, jn1⟩, ⟨at0, at1, at2, ad0, ad1, ad2, as0, as1, as2, ap0, ap1, ap2⟩, -⟩ := HI.out
                obtain ⟨p1, p2, p3, p4⟩ := HNB.out
                refine ⟨?_, ?_, ?_, ?_, ?_, ?_, ?_, ?_⟩ <;> exact IntWalk.i64_in _ ⟨by omega, by omega⟩)
              have j9 := HS.out.k4.cell 9
              go_upto_region 4 with fail
              clear j9 ry hnz hnz2 wg hn0 hn1 hn9 hn5 hn7 hn3 hsS hhH hh2 htS htH hjk hak hbk
              have KJ := Lib.hid HS.out.k4
              have KA := Lib.hid HS.out.k5
              have KB := Lib.hid HS.out.k6
              go_wp2_with (first | (with_reducible refine wpList_load_mid (by with_unfolding_all rfl) 25 _ (by with_unfolding_all rfl) _ _ (by with_unfolding_all rfl) [.int .i64 j.glue.lo, .int .i64 j.glue.hi, .int .i64 j.lead.lo, .int .i64 j.lead.hi, .int .i64 j.side.lo, .int .i64 j.side.hi, .int .i64 j.height.lo, .int .i64 j.height.hi, .int .i64 j.play, .int .i64 j.grooves] _ KJ.out.range (by with_unfolding_all rfl) (by with_unfolding_all rfl) (by kernel_rfl) ?_) | (with_reducible refine wpList_load_mid (by with_unfolding_all rfl) 37 _ (by with_unfolding_all rfl) _ _ (by with_unfolding_all rfl) [.int .i64 a.thick.lo, .int .i64 a.thick.hi, .int .i64 a.depth.lo, .int .i64 a.depth.hi, .int .i64 a.shift.lo, .int .i64 a.shift.hi, .int .i64 a.pitch.lo, .int .i64 a.pitch.hi] _ KA.out.range (by with_unfolding_all rfl) (by with_unfolding_all rfl) (by kernel_rfl) ?_) | (with_reducible refine wpList_load_mid (by with_unfolding_all rfl) 37 _ (by with_unfolding_all rfl) _ _ (by with_unfolding_all rfl) [.int .i64 b.thick.lo, .int .i64 b.thick.hi, .int .i64 b.depth.lo, .int .i64 b.depth.hi, .int .i64 b.shift.lo, .int .i64 b.shift.hi, .int .i64 b.pitch.lo, .int .i64 b.pitch.hi] _ KB.out.range (by with_unfolding_all rfl) (by with_unfolding_all rfl) (by kernel_rfl) ?_))
              refine (HO1.out _).mono ?_
              rintro e W9 ⟨rfl, hb⟩
              replace HS := Lib.hid (HS.out.call hb)
              clear hb KJ KA KB HO1
              have hb9 : Below W9.heap.size W9 ((W9.alloc (.cells #[.int .i64 sS.lo, .int .i64 sS.hi] 23)).alloc (.cells #[.int .i64 hH.lo, .int .i64 hH.hi] 23)) := by repeat (first | exact Below.refl _ _ | assumption | refine Below.drew ?_ | refine Below.alloc ?_ (by first | omega | (simp only [World.size_alloc]; omega) | simp) _ | refine Below.setCell ?_ (by first | omega | (simp only [World.size_alloc]; omega) | simp) _)
              replace HS := Lib.hid (HS.out.call hb9)
              have K18 : Hid (Blk ((W9.alloc (.cells #[.int .i64 sS.lo, .int .i64 sS.hi] 23)).alloc (.cells #[.int .i64 hH.lo, .int .i64 hH.hi] 23)) W9.heap.size 23 #[.int .i64 sS.lo, .int .i64 sS.hi]) := Lib.hid ((Blk.new _ _ _).alloc _)
              have K19 : Hid (Blk ((W9.alloc (.cells #[.int .i64 sS.lo, .int .i64 sS.hi] 23)).alloc (.cells #[.int .i64 hH.lo, .int .i64 hH.hi] 23)) (W9.heap.size + 1) 23 #[.int .i64 hH.lo, .int .i64 hH.hi]) := Lib.hid (blk5 _ _ (by simp) rfl)
              clear hb9
              go_upto_region 5 with fail
              generalize World.alloc (World.alloc W9 _) _ = V9 at HS K18 K19 ⊢
              generalize W9.heap.size + 1 = q19 at K19 ⊢
              generalize W9.heap.size = q18 at K18 ⊢
              have KJ := Lib.hid HS.out.k4
              have KA := Lib.hid HS.out.k5
              have KB := Lib.hid HS.out.k6
              go_wp2_with (first | (with_reducible refine wpList_load_mid (by with_unfolding_all rfl) 25 _ (by with_unfolding_all rfl) _ _ (by with_unfolding_all rfl) [.int .i64 j.glue.lo, .int .i64 j.glue.hi, .int .i64 j.lead.lo, .int .i64 j.lead.hi, .int .i64 j.side.lo, .int .i64 j.side.hi, .int .i64 j.height.lo, .int .i64 j.height.hi, .int .i64 j.play, .int .i64 j.grooves] _ KJ.out.range (by with_unfolding_all rfl) (by with_unfolding_all rfl) (by kernel_rfl) ?_) | (with_reducible refine wpList_load_mid (by with_unfolding_all rfl) 37 _ (by with_unfolding_all rfl) _ _ (by with_unfolding_all rfl) [.int .i64 a.thick.lo, .int .i64 a.thick.hi, .int .i64 a.depth.lo, .int .i64 a.depth.hi, .int .i64 a.shift.lo, .int .i64 a.shift.hi, .int .i64 a.pitch.lo, .int .i64 a.pitch.hi] _ KA.out.range (by with_unfolding_all rfl) (by with_unfolding_all rfl) (by kernel_rfl) ?_) | (with_reducible refine wpList_load_mid (by with_unfolding_all rfl) 37 _ (by with_unfolding_all rfl) _ _ (by with_unfolding_all rfl) [.int .i64 b.thick.lo, .int .i64 b.thick.hi, .int .i64 b.depth.lo, .int .i64 b.depth.hi, .int .i64 b.shift.lo, .int .i64 b.shift.hi, .int .i64 b.pitch.lo, .int .i64 b.pitch.hi] _ KB.out.range (by with_unfolding_all rfl) (by with_unfolding_all rfl) (by kernel_rfl) ?_))
              refine (HO2.out _).mono ?_
              rintro e W10 ⟨rfl, hb⟩
              replace HS := Lib.hid (HS.out.call hb)
              replace K18 := Lib.hid (K18.out.below hb K18.out.lt)
              replace K19 := Lib.hid (K19.out.below hb K19.out.lt)
              clear hb KJ KA KB HO2
              have hb9 : Below W10.heap.size W10 ((W10.alloc (.cells #[.int .i64 sS.lo, .int .i64 sS.hi] 23)).alloc (.cells #[.int .i64 h2H.lo, .int .i64 h2H.hi] 23)) := by repeat (first | exact Below.refl _ _ | assumption | refine Below.drew ?_ | refine Below.alloc ?_ (by first | omega | (simp only [World.size_alloc]; omega) | simp) _ | refine Below.setCell ?_ (by first | omega | (simp only [World.size_alloc]; omega) | simp) _)
              replace HS := Lib.hid (HS.out.call hb9)
              replace K18 := Lib.hid (K18.out.below hb9 K18.out.lt)
              replace K19 := Lib.hid (K19.out.below hb9 K19.out.lt)
              have K21 : Hid (Blk ((W10.alloc (.cells #[.int .i64 sS.lo, .int .i64 sS.hi] 23)).alloc (.cells #[.int .i64 h2H.lo, .int .i64 h2H.hi] 23)) W10.heap.size 23 #[.int .i64 sS.lo, .int .i64 sS.hi]) := Lib.hid ((Blk.new _ _ _).alloc _)
              clear hb9
              go_upto_region 6 with fail
              generalize World.alloc (World.alloc W10 _) _ = V10 at HS K18 K19 K21 ⊢
              generalize W10.heap.size = q21 at K21 ⊢
              have x0 := K18.out.cell 0
              have x1 := K18.out.cell 1
              have y0 := K21.out.cell 0
              have y1 := K21.out.cell 1
              go_upto_region 8 with fail
              clear x0 x1 y0 y1 K21
              go_cut [24, 25] (fun s24 s25 wx => ∃ g24 g25 : Nat, s24 = .pointer (some ⟨g24, 0, none⟩) ∧ s25 = .pointer (some ⟨g25, 0, none⟩) ∧ g24 ≠ g25 ∧ w.heap.size + 1 + 1 < g24 ∧ w.heap.size + 1 + 1 < g25 ∧ (q18 < g24 ∧ q19 < g24 ∧ q18 < g25 ∧ q19 < g25) ∧ Hid (MrB w j a b wx) ∧ Hid (Blk wx q18 23 #[.int .i64 sS.lo, .int .i64 sS.hi]) ∧ Hid (Blk wx q19 23 #[.int .i64 hH.lo, .int .i64 hH.hi]) ∧ Hid (Blk wx g24 37 #[.int .i64 a.thick.lo, .int .i64 a.thick.hi, .int .i64 a.depth.lo, .int .i64 a.depth.hi, .int .i64 a.shift.lo, .int .i64 a.shift.hi, .int .i64 a.pitch.lo, .int .i64 a.pitch.hi]) ∧ Hid (Blk wx g25 25 #[.int .i64 j.glue.lo, .int .i64 j.glue.hi, .int .i64 j.lead.lo, .int .i64 j.lead.hi, .int .i64 j.side.lo, .int .i64 j.side.hi, .int .i64 j.height.lo, .int .i64 j.height.hi, .int .i64 j.play, .int .i64 j.grooves]))
              case first => as_aux_lemma =>
                clear HO3 HSI HHI HCL HGN HT HTH HNB HRY HWR
                go_wp2_with fail
                replace HS := Lib.hid (HS.out.call (Below.refl _ _).drew)
                replace K18 := Lib.hid (K18.out.below (Below.refl _ _).drew K18.out.lt)
                replace K19 := Lib.hid (K19.out.below (Below.refl _ _).drew K19.out.lt)
                refine wp_region_held_drew (S := fun W9 => Blk W9 (w.heap.size + 1) 37 #[.int .i64 a.thick.lo, .int .i64 a.thick.hi, .int .i64 a.depth.lo, .int .i64 a.depth.hi, .int .i64 a.shift.lo, .int .i64 a.shift.hi, .int .i64 a.pitch.lo, .int .i64 a.pitch.hi] ∧ Blk W9 w.heap.size 25 #[.int .i64 j.glue.lo, .int .i64 j.glue.hi, .int .i64 j.lead.lo, .int .i64 j.lead.hi, .int .i64 j.side.lo, .int .i64 j.side.hi, .int .i64 j.height.lo, .int .i64 j.height.hi, .int .i64 j.play, .int .i64 j.grooves]) (by kernel_rfl) ⟨HS.out.k5, HS.out.k4⟩ (fun hH0 => ?_)
                generalize World.drew _ = V0 at *
                simp only [List.size_toArray, List.length_cons, List.length_nil, Nat.reduceAdd, Array.replicate_succ, Array.replicate_zero, List.push_toArray, List.nil_append, List.cons_append]
                refine wpAnyH_take (i := 0) (v := _) rfl (by kernel_rfl) (by kernel_rfl) (by kernel_rfl) (fun _ _ _ h => h) (yieldsIf_load_mid (by rfl) _ _ rfl _ _ rfl [.int .i64 a.thick.lo, .int .i64 a.thick.hi, .int .i64 a.depth.lo, .int .i64 a.depth.hi, .int .i64 a.shift.lo, .int .i64 a.shift.hi, .int .i64 a.pitch.lo, .int .i64 a.pitch.hi] _ (fun w0 h0 => h0.1.range) (by rfl) (by rfl) (by kernel_rfl)) (by assumption) ?_
                (try simp only [Act.put, List.getElem_toArray, List.getElem_cons_zero, List.setIfInBounds_toArray, List.set_cons_zero, List.set_cons_succ])
                refine wpAnyH_take (i := 1) (v := _) rfl (by kernel_rfl) (by kernel_rfl) (by kernel_rfl) (fun _ _ _ h => h) (yieldsIf_load_mid (by rfl) _ _ rfl _ _ rfl [.int .i64 j.glue.lo, .int .i64 j.glue.hi, .int .i64 j.lead.lo, .int .i64 j.lead.hi, .int .i64 j.side.lo, .int .i64 j.side.hi, .int .i64 j.height.lo, .int .i64 j.height.hi, .int .i64 j.play, .int .i64 j.grooves] _ (fun w0 h0 => h0.2.range) (by rfl) (by rfl) (by kernel_rfl)) (by assumption) ?_
                (try simp only [Act.put, List.getElem_toArray, List.getElem_cons_succ, List.getElem_cons_zero, List.setIfInBounds_toArray, List.set_cons_zero, List.set_cons_succ])
                refine wpAnyH_ready (rs := [2, 3]) (by kernel_rfl) (by simp) ?_
                refine AllReadyH.cons (by simp only [List.getElem?_toArray, List.getElem?_cons_succ, List.getElem?_cons_zero]; rfl) (fun K hK => ?_) ?_
                · go_simp
                  have hb : Below V0.heap.size V0 (V0.alloc (.cells #[.int .i64 0, .int .i64 0, .int .i64 0, .int .i64 0, .int .i64 0, .int .i64 0, .int .i64 0, .int .i64 0] 37)) := (Below.refl _ _).alloc (Nat.le_refl _) _
                  have H24 := Lib.hid (Blk.new V0 37 #[.int .i64 0, .int .i64 0, .int .i64 0, .int .i64 0, .int .i64 0, .int .i64 0, .int .i64 0, .int .i64 0])
                  have hlg24 := HS.out.k6.lt
                  have hag24 := K18.out.lt
                  have hcg24 := K19.out.lt
                  replace HS := Lib.hid (HS.out.call hb)
                  replace K18 := Lib.hid (K18.out.below hb K18.out.lt)
                  replace K19 := Lib.hid (K19.out.below hb K19.out.lt)
                  clear hb
                  generalize V0.heap.size = g24 at *
                  generalize World.alloc V0 _ = X at *
                  refine hK.out _ _ ⟨HS.out.k5, HS.out.k4⟩ (fun hH1 => ?_)
                  clear hK K
                  try simp only [List.setIfInBounds_toArray, List.set_cons_zero, List.set_cons_succ]
                  refine wpAnyH_ready (rs := [3]) (by kernel_rfl) (by simp) ?_
                  refine AllReadyH.cons (by simp only [List.getElem?_toArray, List.getElem?_cons_succ, List.getElem?_cons_zero]; rfl) (fun K hK => ?_) AllReadyH.nil
                  go_simp
                  have hb : Below X.heap.size X (X.alloc (.cells #[.int .i64 0, .int .i64 0, .int .i64 0, .int .i64 0, .int .i64 0, .int .i64 0, .int .i64 0, .int .i64 0, .int .i64 0, .int .i64 0] 25)) := (Below.refl _ _).alloc (Nat.le_refl _) _
                  have H25 := Lib.hid (Blk.new X 25 #[.int .i64 0, .int .i64 0, .int .i64 0, .int .i64 0, .int .i64 0, .int .i64 0, .int .i64 0, .int .i64 0, .int .i64 0, .int .i64 0])
                  have hlg25 := HS.out.k6.lt
                  have hag25 := K18.out.lt
                  have hcg25 := K19.out.lt
                  have hne : g24 ≠ X.heap.size := Nat.ne_of_lt H24.out.lt
                  replace HS := Lib.hid (HS.out.call hb)
                  replace K18 := Lib.hid (K18.out.below hb K18.out.lt)
                  replace K19 := Lib.hid (K19.out.below hb K19.out.lt)
                  replace H24 := Lib.hid (H24.out.below hb H24.out.lt)
                  clear hb
                  generalize X.heap.size = g25 at *
                  generalize World.alloc X _ = X at *
                  refine hK.out _ _ ⟨HS.out.k5, HS.out.k4⟩ (fun hH2 => ?_)
                  clear hK K
                  try simp only [List.setIfInBounds_toArray, List.set_cons_zero, List.set_cons_succ]
                  refine wpAnyH_ready (rs := [4]) (by kernel_rfl) (by simp) ?_
                  refine AllReadyH.cons (by simp only [List.getElem?_toArray, List.getElem?_cons_succ, List.getElem?_cons_zero]; rfl) (fun K hK => ?_) AllReadyH.nil
                  rw [if_pos (by rfl)]
                  refine wp_store_row 37 (.tmp 24) (.tmp 118) (by rfl) g24 #[.int .i64 a.thick.lo, .int .i64 a.thick.hi, .int .i64 a.depth.lo, .int .i64 a.depth.hi, .int .i64 a.shift.lo, .int .i64 a.shift.hi, .int .i64 a.pitch.lo, .int .i64 a.pitch.hi] (by rfl) (by rfl) 37 _ H24.out (by kernel_rfl) (by rfl) (by kernel_rfl) ?_
                  replace HS := Lib.hid (HS.out.low (below_setRow (Below.refl (w.heap.size + 1 + 1 + 1) _) (show w.heap.size + 1 + 1 + 1 ≤ g24 by omega) #[.int .i64 a.thick.lo, .int .i64 a.thick.hi, .int .i64 a.depth.lo, .int .i64 a.depth.hi, .int .i64 a.shift.lo, .int .i64 a.shift.hi, .int .i64 a.pitch.lo, .int .i64 a.pitch.hi]) (by omega))
                  replace K18 := Lib.hid (blk_rowfar (r := #[.int .i64 a.thick.lo, .int .i64 a.thick.hi, .int .i64 a.depth.lo, .int .i64 a.depth.hi, .int .i64 a.shift.lo, .int .i64 a.shift.hi, .int .i64 a.pitch.lo, .int .i64 a.pitch.hi]) (show q18 ≠ g24 by omega) K18.out)
                  replace K19 := Lib.hid (blk_rowfar (r := #[.int .i64 a.thick.lo, .int .i64 a.thick.hi, .int .i64 a.depth.lo, .int .i64 a.depth.hi, .int .i64 a.shift.lo, .int .i64 a.shift.hi, .int .i64 a.pitch.lo, .int .i64 a.pitch.hi]) (show q19 ≠ g24 by omega) K19.out)
                  replace H24 := Lib.hid (H24.out.row #[.int .i64 a.thick.lo, .int .i64 a.thick.hi, .int .i64 a.depth.lo, .int .i64 a.depth.hi, .int .i64 a.shift.lo, .int .i64 a.shift.hi, .int .i64 a.pitch.lo, .int .i64 a.pitch.hi])
                  replace H25 := Lib.hid (blk_rowfar (r := #[.int .i64 a.thick.lo, .int .i64 a.thick.hi, .int .i64 a.depth.lo, .int .i64 a.depth.hi, .int .i64 a.shift.lo, .int .i64 a.shift.hi, .int .i64 a.pitch.lo, .int .i64 a.pitch.hi]) hne.symm H25.out)
                  refine hK.out _ _ ⟨HS.out.k5, HS.out.k4⟩ (fun hH3 => ?_)
                  clear hK K
                  try simp only [List.setIfInBounds_toArray, List.set_cons_zero, List.set_cons_succ]
                  refine wpAnyH_ready (rs := [5]) (by kernel_rfl) (by simp) ?_
                  refine AllReadyH.cons (by simp only [List.getElem?_toArray, List.getElem?_cons_succ, List.getElem?_cons_zero]; rfl) (fun K hK => ?_) AllReadyH.nil
                  rw [if_pos (by rfl)]
                  refine wp_store_row 25 (.tmp 25) (.tmp 119) (by rfl) g25 #[.int .i64 j.glue.lo, .int .i64 j.glue.hi, .int .i64 j.lead.lo, .int .i64 j.lead.hi, .int .i64 j.side.lo, .int .i64 j.side.hi, .int .i64 j.height.lo, .int .i64 j.height.hi, .int .i64 j.play, .int .i64 j.grooves] (by rfl) (by rfl) 25 _ H25.out (by kernel_rfl) (by rfl) (by kernel_rfl) ?_
                  replace HS := Lib.hid (HS.out.low (below_setRow (Below.refl (w.heap.size + 1 + 1 + 1) _) (show w.heap.size + 1 + 1 + 1 ≤ g25 by omega) #[.int .i64 j.glue.lo, .int .i64 j.glue.hi, .int .i64 j.lead.lo, .int .i64 j.lead.hi, .int .i64 j.side.lo, .int .i64 j.side.hi, .int .i64 j.height.lo, .int .i64 j.height.hi, .int .i64 j.play, .int .i64 j.grooves]) (by omega))
                  replace K18 := Lib.hid (blk_rowfar (r := #[.int .i64 j.glue.lo, .int .i64 j.glue.hi, .int .i64 j.lead.lo, .int .i64 j.lead.hi, .int .i64 j.side.lo, .int .i64 j.side.hi, .int .i64 j.height.lo, .int .i64 j.height.hi, .int .i64 j.play, .int .i64 j.grooves]) (show q18 ≠ g25 by omega) K18.out)
                  replace K19 := Lib.hid (blk_rowfar (r := #[.int .i64 j.glue.lo, .int .i64 j.glue.hi, .int .i64 j.lead.lo, .int .i64 j.lead.hi, .int .i64 j.side.lo, .int .i64 j.side.hi, .int .i64 j.height.lo, .int .i64 j.height.hi, .int .i64 j.play, .int .i64 j.grooves]) (show q19 ≠ g25 by omega) K19.out)
                  replace H25 := Lib.hid (H25.out.row #[.int .i64 j.glue.lo, .int .i64 j.glue.hi, .int .i64 j.lead.lo, .int .i64 j.lead.hi, .int .i64 j.side.lo, .int .i64 j.side.hi, .int .i64 j.height.lo, .int .i64 j.height.hi, .int .i64 j.play, .int .i64 j.grooves])
                  replace H24 := Lib.hid (blk_rowfar (r := #[.int .i64 j.glue.lo, .int .i64 j.glue.hi, .int .i64 j.lead.lo, .int .i64 j.lead.hi, .int .i64 j.side.lo, .int .i64 j.side.hi, .int .i64 j.height.lo, .int .i64 j.height.hi, .int .i64 j.play, .int .i64 j.grooves]) hne H24.out)
                  refine hK.out _ _ ⟨HS.out.k5, HS.out.k4⟩ (fun hH4 => ?_)
                  clear hK K
                  try simp only [List.setIfInBounds_toArray, List.set_cons_zero, List.set_cons_succ]
                  refine wpAnyH_done (by kernel_rfl) ?_ _
                  go_wp2_with fail
                  go_meet
                  exact ⟨g24, g25, rfl, rfl, hne, by omega, by omega, ⟨by omega, by omega, by omega, by omega⟩, HS, K18, K19, H24, H25⟩
                refine AllReadyH.cons (by simp only [List.getElem?_toArray, List.getElem?_cons_succ, List.getElem?_cons_zero]; rfl) (fun K hK => ?_) ?_
                · go_simp
                  have hb : Below V0.heap.size V0 (V0.alloc (.cells #[.int .i64 0, .int .i64 0, .int .i64 0, .int .i64 0, .int .i64 0, .int .i64 0, .int .i64 0, .int .i64 0, .int .i64 0, .int .i64 0] 25)) := (Below.refl _ _).alloc (Nat.le_refl _) _
                  have H25 := Lib.hid (Blk.new V0 25 #[.int .i64 0, .int .i64 0, .int .i64 0, .int .i64 0, .int .i64 0, .int .i64 0, .int .i64 0, .int .i64 0, .int .i64 0, .int .i64 0])
                  have hlg25 := HS.out.k6.lt
                  have hag25 := K18.out.lt
                  have hcg25 := K19.out.lt
                  replace HS := Lib.hid (HS.out.call hb)
                  replace K18 := Lib.hid (K18.out.below hb K18.out.lt)
                  replace K19 := Lib.hid (K19.out.below hb K19.out.lt)
                  clear hb
                  generalize V0.heap.size = g25 at *
                  generalize World.alloc V0 _ = X at *
                  refine hK.out _ _ ⟨HS.out.k5, HS.out.k4⟩ (fun hH5 => ?_)
                  clear hK K
                  try simp only [List.setIfInBounds_toArray, List.set_cons_zero, List.set_cons_succ]
                  refine wpAnyH_ready (rs := [2]) (by kernel_rfl) (by simp) ?_
                  refine AllReadyH.cons (by simp only [List.getElem?_toArray, List.getElem?_cons_succ, List.getElem?_cons_zero]; rfl) (fun K hK => ?_) AllReadyH.nil
                  go_simp
                  have hb : Below X.heap.size X (X.alloc (.cells #[.int .i64 0, .int .i64 0, .int .i64 0, .int .i64 0, .int .i64 0, .int .i64 0, .int .i64 0, .int .i64 0] 37)) := (Below.refl _ _).alloc (Nat.le_refl _) _
                  have H24 := Lib.hid (Blk.new X 37 #[.int .i64 0, .int .i64 0, .int .i64 0, .int .i64 0, .int .i64 0, .int .i64 0, .int .i64 0, .int .i64 0])
                  have hlg24 := HS.out.k6.lt
                  have hag24 := K18.out.lt
                  have hcg24 := K19.out.lt
                  have hne : X.heap.size ≠ g25 := (Nat.ne_of_lt H25.out.lt).symm
                  replace HS := Lib.hid (HS.out.call hb)
                  replace K18 := Lib.hid (K18.out.below hb K18.out.lt)
                  replace K19 := Lib.hid (K19.out.below hb K19.out.lt)
                  replace H25 := Lib.hid (H25.out.below hb H25.out.lt)
                  clear hb
                  generalize X.heap.size = g24 at *
                  generalize World.alloc X _ = X at *
                  refine hK.out _ _ ⟨HS.out.k5, HS.out.k4⟩ (fun hH6 => ?_)
                  clear hK K
                  try simp only [List.setIfInBounds_toArray, List.set_cons_zero, List.set_cons_succ]
                  refine wpAnyH_ready (rs := [4]) (by kernel_rfl) (by simp) ?_
                  refine AllReadyH.cons (by simp only [List.getElem?_toArray, List.getElem?_cons_succ, List.getElem?_cons_zero]; rfl) (fun K hK => ?_) AllReadyH.nil
                  rw [if_pos (by rfl)]
                  refine wp_store_row 37 (.tmp 24) (.tmp 118) (by rfl) g24 #[.int .i64 a.thick.lo, .int .i64 a.thick.hi, .int .i64 a.depth.lo, .int .i64 a.depth.hi, .int .i64 a.shift.lo, .int .i64 a.shift.hi, .int .i64 a.pitch.lo, .int .i64 a.pitch.hi] (by rfl) (by rfl) 37 _ H24.out (by kernel_rfl) (by rfl) (by kernel_rfl) ?_
                  replace HS := Lib.hid (HS.out.low (below_setRow (Below.refl (w.heap.size + 1 + 1 + 1) _) (show w.heap.size + 1 + 1 + 1 ≤ g24 by omega) #[.int .i64 a.thick.lo, .int .i64 a.thick.hi, .int .i64 a.depth.lo, .int .i64 a.depth.hi, .int .i64 a.shift.lo, .int .i64 a.shift.hi, .int .i64 a.pitch.lo, .int .i64 a.pitch.hi]) (by omega))
                  replace K18 := Lib.hid (blk_rowfar (r := #[.int .i64 a.thick.lo, .int .i64 a.thick.hi, .int .i64 a.depth.lo, .int .i64 a.depth.hi, .int .i64 a.shift.lo, .int .i64 a.shift.hi, .int .i64 a.pitch.lo, .int .i64 a.pitch.hi]) (show q18 ≠ g24 by omega) K18.out)
                  replace K19 := Lib.hid (blk_rowfar (r := #[.int .i64 a.thick.lo, .int .i64 a.thick.hi, .int .i64 a.depth.lo, .int .i64 a.depth.hi, .int .i64 a.shift.lo, .int .i64 a.shift.hi, .int .i64 a.pitch.lo, .int .i64 a.pitch.hi]) (show q19 ≠ g24 by omega) K19.out)
                  replace H24 := Lib.hid (H24.out.row #[.int .i64 a.thick.lo, .int .i64 a.thick.hi, .int .i64 a.depth.lo, .int .i64 a.depth.hi, .int .i64 a.shift.lo, .int .i64 a.shift.hi, .int .i64 a.pitch.lo, .int .i64 a.pitch.hi])
                  replace H25 := Lib.hid (blk_rowfar (r := #[.int .i64 a.thick.lo, .int .i64 a.thick.hi, .int .i64 a.depth.lo, .int .i64 a.depth.hi, .int .i64 a.shift.lo, .int .i64 a.shift.hi, .int .i64 a.pitch.lo, .int .i64 a.pitch.hi]) hne.symm H25.out)
                  refine hK.out _ _ ⟨HS.out.k5, HS.out.k4⟩ (fun hH7 => ?_)
                  clear hK K
                  try simp only [List.setIfInBounds_toArray, List.set_cons_zero, List.set_cons_succ]
                  refine wpAnyH_ready (rs := [5]) (by kernel_rfl) (by simp) ?_
                  refine AllReadyH.cons (by simp only [List.getElem?_toArray, List.getElem?_cons_succ, List.getElem?_cons_zero]; rfl) (fun K hK => ?_) AllReadyH.nil
                  rw [if_pos (by rfl)]
                  refine wp_store_row 25 (.tmp 25) (.tmp 119) (by rfl) g25 #[.int .i64 j.glue.lo, .int .i64 j.glue.hi, .int .i64 j.lead.lo, .int .i64 j.lead.hi, .int .i64 j.side.lo, .int .i64 j.side.hi, .int .i64 j.height.lo, .int .i64 j.height.hi, .int .i64 j.play, .int .i64 j.grooves] (by rfl) (by rfl) 25 _ H25.out (by kernel_rfl) (by rfl) (by kernel_rfl) ?_
                  replace HS := Lib.hid (HS.out.low (below_setRow (Below.refl (w.heap.size + 1 + 1 + 1) _) (show w.heap.size + 1 + 1 + 1 ≤ g25 by omega) #[.int .i64 j.glue.lo, .int .i64 j.glue.hi, .int .i64 j.lead.lo, .int .i64 j.lead.hi, .int .i64 j.side.lo, .int .i64 j.side.hi, .int .i64 j.height.lo, .int .i64 j.height.hi, .int .i64 j.play, .int .i64 j.grooves]) (by omega))
                  replace K18 := Lib.hid (blk_rowfar (r := #[.int .i64 j.glue.lo, .int .i64 j.glue.hi, .int .i64 j.lead.lo, .int .i64 j.lead.hi, .int .i64 j.side.lo, .int .i64 j.side.hi, .int .i64 j.height.lo, .int .i64 j.height.hi, .int .i64 j.play, .int .i64 j.grooves]) (show q18 ≠ g25 by omega) K18.out)
                  replace K19 := Lib.hid (blk_rowfar (r := #[.int .i64 j.glue.lo, .int .i64 j.glue.hi, .int .i64 j.lead.lo, .int .i64 j.lead.hi, .int .i64 j.side.lo, .int .i64 j.side.hi, .int .i64 j.height.lo, .int .i64 j.height.hi, .int .i64 j.play, .int .i64 j.grooves]) (show q19 ≠ g25 by omega) K19.out)
                  replace H25 := Lib.hid (H25.out.row #[.int .i64 j.glue.lo, .int .i64 j.glue.hi, .int .i64 j.lead.lo, .int .i64 j.lead.hi, .int .i64 j.side.lo, .int .i64 j.side.hi, .int .i64 j.height.lo, .int .i64 j.height.hi, .int .i64 j.play, .int .i64 j.grooves])
                  replace H24 := Lib.hid (blk_rowfar (r := #[.int .i64 j.glue.lo, .int .i64 j.glue.hi, .int .i64 j.lead.lo, .int .i64 j.lead.hi, .int .i64 j.side.lo, .int .i64 j.side.hi, .int .i64 j.height.lo, .int .i64 j.height.hi, .int .i64 j.play, .int .i64 j.grooves]) hne H24.out)
                  refine hK.out _ _ ⟨HS.out.k5, HS.out.k4⟩ (fun hH8 => ?_)
                  clear hK K
                  try simp only [List.setIfInBounds_toArray, List.set_cons_zero, List.set_cons_succ]
                  refine wpAnyH_done (by kernel_rfl) ?_ _
                  go_wp2_with fail
                  go_meet
                  exact ⟨g24, g25, rfl, rfl, hne, by omega, by omega, ⟨by omega, by omega, by omega, by omega⟩, HS, K18, K19, H24, H25⟩
                exact AllReadyH.nil
              case rest => as_aux_lemma =>
                obtain ⟨g24, g25, rfl, rfl, hne, hgA, hgB, ⟨q1, q2, q3, q4⟩, HS, K18, K19, H24, H25⟩ := hcut
                obtain ⟨r9, r5, r7, r3⟩ := HRY.out
                obtain ⟨w1, w2, w3, w4, w5, w6, w7, w8⟩ := HWR.out
                -- thin.Thick.Hi
                obtain ⟨m1, hm1⟩ : ∃ v, max a.thick.lo (a.thick.hi - n9) = v := ⟨_, rfl⟩
                obtain ⟨m2, hm2⟩ : ∃ v, min a.shift.hi (a.shift.lo + n5) = v := ⟨_, rfl⟩
                obtain ⟨m3, hm3⟩ : ∃ v, min j.glue.hi (j.glue.lo + n7) = v := ⟨_, rfl⟩
                obtain ⟨m4, hm4⟩ : ∃ v, max j.side.lo (j.side.hi - n3) = v := ⟨_, rfl⟩
                have z0 := HS.out.k5.cell 0
                have z1 := HS.out.k5.cell 1
                have f0 := H24.out.cell 1
                have f1 := H24.out.frozen 1
                have f2 := H24.out.lt
                have hlow : Below (w.heap.size + 1 + 1 + 1) wc (wc.setCell ⟨g24, 1, none⟩ (.int .i64 m1)) := (Below.refl _ _).setCell (by simp only []; omega) _
                go_upto_region 10 with fail
                clear f0 f1 f2 z0 z1
                replace HS := Lib.hid (HS.out.low hlow (by omega))
                replace K18 := Lib.hid (K18.out.far (p := ⟨g24, 1, none⟩) (by simp only []; omega) (.int .i64 m1))
                replace K19 := Lib.hid (K19.out.far (p := ⟨g24, 1, none⟩) (by simp only []; omega) (.int .i64 m1))
                replace H24 := Lib.hid (H24.out.set_ 1 (.int .i64 m1))
                replace H25 := Lib.hid (H25.out.far (p := ⟨g24, 1, none⟩) (by simp only []; omega) (.int .i64 m1))
                clear hlow
                generalize World.setCell wc _ _ = U1 at HS K18 K19 H24 H25 ⊢
                have z0 := HS.out.k5.cell 5
                have z1 := HS.out.k5.cell 4
                have f0 := H24.out.cell 4
                have f1 := H24.out.frozen 4
                have f2 := H24.out.lt
                have hlow : Below (w.heap.size + 1 + 1 + 1) U1 (U1.setCell ⟨g24, 4, none⟩ (.int .i64 m2)) := (Below.refl _ _).setCell (by simp only []; omega) _
                go_upto_region 11 with fail
                clear f0 f1 f2 z0 z1
                replace HS := Lib.hid (HS.out.low hlow (by omega))
                replace K18 := Lib.hid (K18.out.far (p := ⟨g24, 4, none⟩) (by simp only []; omega) (.int .i64 m2))
                replace K19 := Lib.hid (K19.out.far (p := ⟨g24, 4, none⟩) (by simp only []; omega) (.int .i64 m2))
                replace H24 := Lib.hid (H24.out.set_ 4 (.int .i64 m2))
                replace H25 := Lib.hid (H25.out.far (p := ⟨g24, 4, none⟩) (by simp only []; omega) (.int .i64 m2))
                clear hlow
                generalize World.setCell U1 _ _ = U2 at HS K18 K19 H24 H25 ⊢
                have z0 := HS.out.k4.cell 1
                have z1 := HS.out.k4.cell 0
                have f0 := H25.out.cell 0
                have f1 := H25.out.frozen 0
                have f2 := H25.out.lt
                have hlow : Below (w.heap.size + 1 + 1 + 1) U2 (U2.setCell ⟨g25, 0, none⟩ (.int .i64 m3)) := (Below.refl _ _).setCell (by simp only []; omega) _
                go_upto_region 12 with fail
                clear f0 f1 f2 z0 z1
                replace HS := Lib.hid (HS.out.low hlow (by omega))
                replace K18 := Lib.hid (K18.out.far (p := ⟨g25, 0, none⟩) (by simp only []; omega) (.int .i64 m3))
                replace K19 := Lib.hid (K19.out.far (p := ⟨g25, 0, none⟩) (by simp only []; omega) (.int .i64 m3))
                replace H25 := Lib.hid (H25.out.set_ 0 (.int .i64 m3))
                replace H24 := Lib.hid (H24.out.far (p := ⟨g25, 0, none⟩) (by simp only []; omega) (.int .i64 m3))
                clear hlow
                generalize World.setCell U2 _ _ = U3 at HS K18 K19 H24 H25 ⊢
                have z0 := HS.out.k4.cell 4
                have z1 := HS.out.k4.cell 5
                have f0 := H25.out.cell 5
                have f1 := H25.out.frozen 5
                have f2 := H25.out.lt
                have hlow : Below (w.heap.size + 1 + 1 + 1) U3 (U3.setCell ⟨g25, 5, none⟩ (.int .i64 m4)) := (Below.refl _ _).setCell (by simp only []; omega) _
                go_upto_region 13 with fail
                clear f0 f1 f2 z0 z1
                replace HS := Lib.hid (HS.out.low hlow (by omega))
                replace K18 := Lib.hid (K18.out.far (p := ⟨g25, 5, none⟩) (by simp only []; omega) (.int .i64 m4))
                replace K19 := Lib.hid (K19.out.far (p := ⟨g25, 5, none⟩) (by simp only []; omega) (.int .i64 m4))
                replace H25 := Lib.hid (H25.out.set_ 5 (.int .i64 m4))
                replace H24 := Lib.hid (H24.out.far (p := ⟨g25, 5, none⟩) (by simp only []; omega) (.int .i64 m4))
                clear hlow
                generalize World.setCell U3 _ _ = U4 at HS K18 K19 H24 H25 ⊢
                obtain ⟨t, ht⟩ : ∃ t, tightJ j n7 n3 = t := ⟨_, rfl⟩
                obtain ⟨s, hs⟩ : ∃ s, thinS a n9 n5 = s := ⟨_, rfl⟩
                have HN : Hid (NrB w j a b g24 g25 t s U4) := Lib.hid ⟨HS.out, by rw [← hs]; unfold thinS; dsimp only; rw [hm1, hm2]; exact H24.out, by rw [← ht]; unfold tightJ; dsimp only; rw [hm3, hm4]; exact H25.out⟩
                rw [ht, hs] at HGN HCL
                rw [ht] at HT
                rw [hs] at HTH
                have HO4 : Hid (∀ W, Calls Try.prog 19 #[.agg #[.int .i64 t.glue.lo, .int .i64 t.glue.hi, .int .i64 t.lead.lo, .int .i64 t.lead.hi, .int .i64 t.side.lo, .int .i64 t.side.hi, .int .i64 t.height.lo, .int .i64 t.height.hi, .int .i64 t.play, .int .i64 t.grooves], .agg #[.int .i64 s.thick.lo, .int .i64 s.thick.hi, .int .i64 s.depth.lo, .int .i64 s.depth.hi, .int .i64 s.shift.lo, .int .i64 s.shift.hi, .int .i64 s.pitch.lo, .int .i64 s.pitch.hi], .agg #[.int .i64 b.thick.lo, .int .i64 b.thick.hi, .int .i64 b.depth.lo, .int .i64 b.depth.hi, .int .i64 b.shift.lo, .int .i64 b.shift.hi, .int .i64 b.pitch.lo, .int .i64 b.pitch.hi], .int .i64 g] W (Ret (.tuple #[.agg #[.int .i64 tS.lo, .int .i64 tS.hi], .agg #[.int .i64 tH.lo, .int .i64 tH.hi], .int .i64 0]) W)) := Lib.hid (by rw [← ht, ← hs]; exact HO3.out)
                clear r9 r5 r7 r3 w1 w2 w3 w4 w5 w6 w7 w8 hm1 hm2 hm3 hm4 ht hs HS H24 H25 HO3 HRY HWR HNB hne hgA hgB q1 q2 q3 q4
                have HS := HN
                clear HN
                have KS := Lib.hid HS.out.k24
                have KT := Lib.hid HS.out.k25
                have KB := Lib.hid HS.out.of.k6
                as_aux_lemma =>
                  go_wp2_with (first | (with_reducible refine wpList_load_mid (by with_unfolding_all rfl) 25 _ (by with_unfolding_all rfl) _ _ (by with_unfolding_all rfl) [.int .i64 t.glue.lo, .int .i64 t.glue.hi, .int .i64 t.lead.lo, .int .i64 t.lead.hi, .int .i64 t.side.lo, .int .i64 t.side.hi, .int .i64 t.height.lo, .int .i64 t.height.hi, .int .i64 t.play, .int .i64 t.grooves] _ KT.out.range (by with_unfolding_all rfl) (by with_unfolding_all rfl) (by kernel_rfl) ?_) | (with_reducible refine wpList_load_mid (by with_unfolding_all rfl) 37 _ (by with_unfolding_all rfl) _ _ (by with_unfolding_all rfl) [.int .i64 s.thick.lo, .int .i64 s.thick.hi, .int .i64 s.depth.lo, .int .i64 s.depth.hi, .int .i64 s.shift.lo, .int .i64 s.shift.hi, .int .i64 s.pitch.lo, .int .i64 s.pitch.hi] _ KS.out.range (by with_unfolding_all rfl) (by with_unfolding_all rfl) (by kernel_rfl) ?_) | (with_reducible refine wpList_load_mid (by with_unfolding_all rfl) 37 _ (by with_unfolding_all rfl) _ _ (by with_unfolding_all rfl) [.int .i64 b.thick.lo, .int .i64 b.thick.hi, .int .i64 b.depth.lo, .int .i64 b.depth.hi, .int .i64 b.shift.lo, .int .i64 b.shift.hi, .int .i64 b.pitch.lo, .int .i64 b.pitch.hi] _ KB.out.range (by with_unfolding_all rfl) (by with_unfolding_all rfl) (by kernel_rfl) ?_))
                  refine (HO4.out _).mono ?_
                  rintro e W11 ⟨rfl, hb⟩
                  replace HS := Lib.hid (HS.out.call hb)
                  replace K18 := Lib.hid (K18.out.below hb K18.out.lt)
                  replace K19 := Lib.hid (K19.out.below hb K19.out.lt)
                  clear hb KS KT KB HO4
                  have hb9 : Below W11.heap.size W11 ((W11.alloc (.cells #[.int .i64 tS.lo, .int .i64 tS.hi] 23)).alloc (.cells #[.int .i64 tH.lo, .int .i64 tH.hi] 23)) := by repeat (first | exact Below.refl _ _ | assumption | refine Below.drew ?_ | refine Below.alloc ?_ (by first | omega | (simp only [World.size_alloc]; omega) | simp) _ | refine Below.setCell ?_ (by first | omega | (simp only [World.size_alloc]; omega) | simp) _)
                  replace HS := Lib.hid (HS.out.call hb9)
                  replace K18 := Lib.hid (K18.out.below hb9 K18.out.lt)
                  replace K19 := Lib.hid (K19.out.below hb9 K19.out.lt)
                  have K26 : Hid (Blk ((W11.alloc (.cells #[.int .i64 tS.lo, .int .i64 tS.hi] 23)).alloc (.cells #[.int .i64 tH.lo, .int .i64 tH.hi] 23)) W11.heap.size 23 #[.int .i64 tS.lo, .int .i64 tS.hi]) := Lib.hid ((Blk.new _ _ _).alloc _)
                  have K27 : Hid (Blk ((W11.alloc (.cells #[.int .i64 tS.lo, .int .i64 tS.hi] 23)).alloc (.cells #[.int .i64 tH.lo, .int .i64 tH.hi] 23)) (W11.heap.size + 1) 23 #[.int .i64 tH.lo, .int .i64 tH.hi]) := Lib.hid (blk5 _ _ (by simp) rfl)
                  clear hb9
                  go_upto_region 14 with fail
                  generalize World.alloc (World.alloc W11 _) _ = V11 at HS K18 K19 K26 K27 ⊢
                  generalize W11.heap.size + 1 = q27 at K27 ⊢
                  generalize W11.heap.size = q26 at K26 ⊢
                  have e0 := K18.out.cell 0
                  have e1 := K18.out.cell 1
                  have e2 := K19.out.cell 0
                  have e3 := K19.out.cell 1
                  have e4 := K26.out.cell 0
                  have e5 := K26.out.cell 1
                  have e6 := K27.out.cell 0
                  have e7 := K27.out.cell 1
                  have d0 : ¬ tS.lo < sS.lo := Int.not_lt.2 HSI.out.1
                  have d1 : ¬ sS.hi < tS.hi := Int.not_lt.2 HSI.out.2
                  have d2 : ¬ tH.lo < hH.lo := Int.not_lt.2 HHI.out.1
                  have d3 : ¬ hH.hi < tH.hi := Int.not_lt.2 HHI.out.2
                  go_upto_region 16 with fail
                  clear e0 e1 e2 e3 e4 e5 e6 e7 d0 d1 d2 d3 K18 K19 K26 K27 HSI HHI
                  as_aux_lemma =>
                    have KJ := Lib.hid HS.out.of.k4
                    have KA := Lib.hid HS.out.of.k5
                    have KB := Lib.hid HS.out.of.k6
                    go_wp2_with (first | (with_reducible refine wpList_load_mid (by with_unfolding_all rfl) 25 _ (by with_unfolding_all rfl) _ _ (by with_unfolding_all rfl) [.int .i64 j.glue.lo, .int .i64 j.glue.hi, .int .i64 j.lead.lo, .int .i64 j.lead.hi, .int .i64 j.side.lo, .int .i64 j.side.hi, .int .i64 j.height.lo, .int .i64 j.height.hi, .int .i64 j.play, .int .i64 j.grooves] _ KJ.out.range (by with_unfolding_all rfl) (by with_unfolding_all rfl) (by kernel_rfl) ?_) | (with_reducible refine wpList_load_mid (by with_unfolding_all rfl) 37 _ (by with_unfolding_all rfl) _ _ (by with_unfolding_all rfl) [.int .i64 a.thick.lo, .int .i64 a.thick.hi, .int .i64 a.depth.lo, .int .i64 a.depth.hi, .int .i64 a.shift.lo, .int .i64 a.shift.hi, .int .i64 a.pitch.lo, .int .i64 a.pitch.hi] _ KA.out.range (by with_unfolding_all rfl) (by with_unfolding_all rfl) (by kernel_rfl) ?_) | (with_reducible refine wpList_load_mid (by with_unfolding_all rfl) 37 _ (by with_unfolding_all rfl) _ _ (by with_unfolding_all rfl) [.int .i64 b.thick.lo, .int .i64 b.thick.hi, .int .i64 b.depth.lo, .int .i64 b.depth.hi, .int .i64 b.shift.lo, .int .i64 b.shift.hi, .int .i64 b.pitch.lo, .int .i64 b.pitch.hi] _ KB.out.range (by with_unfolding_all rfl) (by with_unfolding_all rfl) (by kernel_rfl) ?_))
                    refine (closes_told HOK.out.1 HOK.out.2.1 HOK.out.2.2 _).mono ?_
                    rintro e W12 ⟨rfl, hb⟩
                    replace HS := Lib.hid (HS.out.call hb)
                    clear hb KJ KA KB
                    have KS := Lib.hid HS.out.k24
                    have KT := Lib.hid HS.out.k25
                    have KB := Lib.hid HS.out.of.k6
                    go_wp2_with (first | (with_reducible refine wpList_load_mid (by with_unfolding_all rfl) 25 _ (by with_unfolding_all rfl) _ _ (by with_unfolding_all rfl) [.int .i64 t.glue.lo, .int .i64 t.glue.hi, .int .i64 t.lead.lo, .int .i64 t.lead.hi, .int .i64 t.side.lo, .int .i64 t.side.hi, .int .i64 t.height.lo, .int .i64 t.height.hi, .int .i64 t.play, .int .i64 t.grooves] _ KT.out.range (by with_unfolding_all rfl) (by with_unfolding_all rfl) (by kernel_rfl) ?_) | (with_reducible refine wpList_load_mid (by with_unfolding_all rfl) 37 _ (by with_unfolding_all rfl) _ _ (by with_unfolding_all rfl) [.int .i64 s.thick.lo, .int .i64 s.thick.hi, .int .i64 s.depth.lo, .int .i64 s.depth.hi, .int .i64 s.shift.lo, .int .i64 s.shift.hi, .int .i64 s.pitch.lo, .int .i64 s.pitch.hi] _ KS.out.range (by with_unfolding_all rfl) (by with_unfolding_all rfl) (by kernel_rfl) ?_) | (with_reducible refine wpList_load_mid (by with_unfolding_all rfl) 37 _ (by with_unfolding_all rfl) _ _ (by with_unfolding_all rfl) [.int .i64 b.thick.lo, .int .i64 b.thick.hi, .int .i64 b.depth.lo, .int .i64 b.depth.hi, .int .i64 b.shift.lo, .int .i64 b.shift.hi, .int .i64 b.pitch.lo, .int .i64 b.pitch.hi] _ KB.out.range (by with_unfolding_all rfl) (by with_unfolding_all rfl) (by kernel_rfl) ?_))
                    refine (closes_told HT.out HTH.out HOK.out.2.2 _).mono ?_
                    rintro e W13 ⟨rfl, hb⟩
                    replace HS := Lib.hid (HS.out.call hb)
                    clear hb KS KT KB
                    generalize closesN j a b = n1 at HCL ⊢
                    generalize closesN t s b = n2 at HCL ⊢
                    go_upto_region 18 with fail
                    go_cut [240] (fun sx wx => sx = .bool false ∧ Hid (NrB w j a b g24 g25 t s wx))
                    case first =>
                      by_cases h2 : n1 = 2
                      · have h2b := HCL.out.1 h2
                        subst h2; subst h2b
                        go_wp2_with fail
                        go_meet
                        exact ⟨rfl, HS⟩
                      · have h2' : (n1 == 2) = false := by rw [beq_eq_false_iff_ne]; exact h2
                        by_cases h0 : n1 = 0
                        · have h0b := HCL.out.2 h0
                          subst h0; subst h0b
                          go_wp2_with fail
                          go_meet
                          exact ⟨rfl, HS⟩
                        · have h0' : (n1 == 0) = false := by rw [beq_eq_false_iff_ne]; exact h0
                          go_wp2_with fail
                          go_meet
                          exact ⟨rfl, HS⟩
                    case rest => as_aux_lemma =>
                      obtain ⟨rfl, HS⟩ := hcut
                      clear HCL
                      as_aux_lemma =>
                        go_upto_region 20 with fail
                        have KJ := Lib.hid HS.out.of.k4
                        have KA := Lib.hid HS.out.of.k5
                        have KB := Lib.hid HS.out.of.k6
                        have HGR := Lib.hid fun W (hW : Below w.heap.size w W) => grades5_any j a b C cx x W HLEN.out.1 (HC.out.on hW (Nat.le_refl _))
                        have HGR2 := Lib.hid fun W (hW : Below w.heap.size w W) => grades5_any t s b C cx x W HLEN.out.1 (HC.out.on hW (Nat.le_refl _))
                        have HG0 : Hid (graE j a b x ≠ 0 → graL j a b x = []) := Lib.hid gra_none
                        generalize graE j a b x = e1 at *
                        generalize graL j a b x = l1 at *
                        generalize graE t s b x = e2 at *
                        generalize graL t s b x = l2 at *
                        go_wp2_with (first | (with_reducible refine wpList_load_mid (by with_unfolding_all rfl) 25 _ (by with_unfolding_all rfl) _ _ (by with_unfolding_all rfl) [.int .i64 j.glue.lo, .int .i64 j.glue.hi, .int .i64 j.lead.lo, .int .i64 j.lead.hi, .int .i64 j.side.lo, .int .i64 j.side.hi, .int .i64 j.height.lo, .int .i64 j.height.hi, .int .i64 j.play, .int .i64 j.grooves] _ KJ.out.range (by with_unfolding_all rfl) (by with_unfolding_all rfl) (by kernel_rfl) ?_) | (with_reducible refine wpList_load_mid (by with_unfolding_all rfl) 37 _ (by with_unfolding_all rfl) _ _ (by with_unfolding_all rfl) [.int .i64 a.thick.lo, .int .i64 a.thick.hi, .int .i64 a.depth.lo, .int .i64 a.depth.hi, .int .i64 a.shift.lo, .int .i64 a.shift.hi, .int .i64 a.pitch.lo, .int .i64 a.pitch.hi] _ KA.out.range (by with_unfolding_all rfl) (by with_unfolding_all rfl) (by kernel_rfl) ?_) | (with_reducible refine wpList_load_mid (by with_unfolding_all rfl) 37 _ (by with_unfolding_all rfl) _ _ (by with_unfolding_all rfl) [.int .i64 b.thick.lo, .int .i64 b.thick.hi, .int .i64 b.depth.lo, .int .i64 b.depth.hi, .int .i64 b.shift.lo, .int .i64 b.shift.hi, .int .i64 b.pitch.lo, .int .i64 b.pitch.hi] _ KB.out.range (by with_unfolding_all rfl) (by with_unfolding_all rfl) (by kernel_rfl) ?_))
                        refine (HGR.out _ HS.out.of.hb).mono ?_
                        rintro e W14 ⟨A1, c1, rfl, hown1, hb⟩
                        replace HS := Lib.hid (HS.out.call hb)
                        have HL1 := Lib.hid (show PlanAt W14 (.slice A1 l1.length c1) l1 from own_low hown1 (Nat.zero_le _))
                        clear hb KJ KA KB HGR hown1
                        have KS := Lib.hid HS.out.k24
                        have KT := Lib.hid HS.out.k25
                        have KB := Lib.hid HS.out.of.k6
                        go_wp2_with (first | (with_reducible refine wpList_load_mid (by with_unfolding_all rfl) 25 _ (by with_unfolding_all rfl) _ _ (by with_unfolding_all rfl) [.int .i64 t.glue.lo, .int .i64 t.glue.hi, .int .i64 t.lead.lo, .int .i64 t.lead.hi, .int .i64 t.side.lo, .int .i64 t.side.hi, .int .i64 t.height.lo, .int .i64 t.height.hi, .int .i64 t.play, .int .i64 t.grooves] _ KT.out.range (by with_unfolding_all rfl) (by with_unfolding_all rfl) (by kernel_rfl) ?_) | (with_reducible refine wpList_load_mid (by with_unfolding_all rfl) 37 _ (by with_unfolding_all rfl) _ _ (by with_unfolding_all rfl) [.int .i64 s.thick.lo, .int .i64 s.thick.hi, .int .i64 s.depth.lo, .int .i64 s.depth.hi, .int .i64 s.shift.lo, .int .i64 s.shift.hi, .int .i64 s.pitch.lo, .int .i64 s.pitch.hi] _ KS.out.range (by with_unfolding_all rfl) (by with_unfolding_all rfl) (by kernel_rfl) ?_) | (with_reducible refine wpList_load_mid (by with_unfolding_all rfl) 37 _ (by with_unfolding_all rfl) _ _ (by with_unfolding_all rfl) [.int .i64 b.thick.lo, .int .i64 b.thick.hi, .int .i64 b.depth.lo, .int .i64 b.depth.hi, .int .i64 b.shift.lo, .int .i64 b.shift.hi, .int .i64 b.pitch.lo, .int .i64 b.pitch.hi] _ KB.out.range (by with_unfolding_all rfl) (by with_unfolding_all rfl) (by kernel_rfl) ?_))
                        refine (HGR2.out _ HS.out.of.hb).mono ?_
                        rintro e W15 ⟨A2, c2, rfl, hown2, hb⟩
                        replace HS := Lib.hid (HS.out.call hb)
                        replace HL1 := Lib.hid (HL1.out.below hb)
                        have HL2 := Lib.hid (show PlanAt W15 (.slice A2 l2.length c2) l2 from own_low hown2 (Nat.zero_le _))
                        clear hb KS KT KB HGR2 hown2
                        go_upto_region 22 with fail
                        go_cut [269] (fun sx wx => sx = .bool false ∧ Hid (NrB w j a b g24 g25 t s wx) ∧ Hid (PlanAt wx (.slice A1 l1.length c1) l1) ∧ Hid (PlanAt wx (.slice A2 l2.length c2) l2))
                        case first =>
                          by_cases h0 : e1 = 0
                          · obtain ⟨g2, g3, -, -⟩ := HGN.out h0
                            subst h0; subst g2
                            have HLL9 : Hid (((l1.length : Int) != l2.length) = false) := Lib.hid (by rw [bne, g3]; simp)
                            clear g3
                            go_wp2_with fail
                            go_meet
                            exact ⟨by rw [HLL9.out], HS, HL1, HL2⟩
                          · have h0' : (e1 == 0) = false := by rw [beq_eq_false_iff_ne]; exact h0
                            go_wp2_with fail
                            go_meet
                            exact ⟨rfl, HS, HL1, HL2⟩
                        case rest => as_aux_lemma =>
                          obtain ⟨rfl, HS, HL1, HL2⟩ := hcut
                          have HP1 := Lib.hid (plan_sl5 HL1.out)
                          have HP2 := Lib.hid (plan_sl5 HL2.out)
                          have HLL : Hid (l1.length ≤ 10 ∧ ∀ k, k < l1.length → l2.length = l1.length ∧ ∀ u v : Int, l1[k]? = some u → l2[k]? = some v → u ≠ -1 → v ≠ -1 ∧ v ≤ u) := Lib.hid (by
                            by_cases h0 : e1 = 0
                            · obtain ⟨-, g3, g4, g5⟩ := HGN.out h0
                              exact ⟨g4, fun k _ => ⟨g3, fun u v => g5 k u v⟩⟩
                            · have h9 := HG0.out h0
                              subst h9
                              exact ⟨by simp, fun k hk => by simp at hk⟩)
                          have hl10 : (l1.length : Int) ≤ 10 := by have := HLL.out.1; omega
                          have hl00 : (0 : Int) ≤ l1.length := by omega
                          have HW0 := Lib.hid (Below.refl wc.heap.size wc)
                          clear HL1 HL2 HGN HG0
                          go_wp2_with fail
                          refine more_loop2 _ A1 A2 c1 c2 l1 l2 hl10 HLL HP1 HP2 _ (fun _ _ d1 _ _ h => by cases d1 <;> exact h) _ _ _ _ _ _ _ _ _ _ _ _ _ _ _ _ _ _ _ _ _ _ _ _ _ _ _ _ _ _ _ _ _ _ _ _ _ _ _ _ _ _ _ _ _ _ _ _ _ _ _ _ _ _ _ _ _ _ _ _ _ _ _ _ _ _ _ _ _ _ _ _ _ _ _ _ _ _ _ _ _ _ _ _ _ _ _ _ _ _ _ _ _ _ _ _ _ _ _ _ _ _ _ _ _ _ _ _ _ _ _ _ _ _ _ _ _ _ _ _ _ _ _ _ _ _ _ _ _ _ _ _ _ _ _ _ _ _ _ _ _ _ _ _ _ _ _ _ _ _ _ _ _ _ _ _ _ _ _ _ _ _ _ _ _ _ _ _ _ _ _ _ _ _ _ _ _ _ _ _ _ _ _ _ _ _ _ _ _ _ _ _ _ _ _ _ _ _ _ _ _ _ _ _ _ _ _ _ _ _ _ _ _ _ _ _ _ _ _ _ _ _ _ _ _ _ _ _ _ _ _ _ _ _ _ _ _ _ _ _ _ _ _ _ _ _ _ _ _ _ _ _ _ _ _ _ _ _ _ _ _ _ _ _ _ _ _ _ _ _ _ _ _ _ _ _ _ _ _ _ _ _ _ _ _ _ _ _ _ _ _ _ _ _ _ _ _ _ _ _ _ _ _ _ _ _ _ _ _ _ _ _ _ _ _ _ _ _ _ _ _ _ _ _ _ _ _ _ _ _ _ _ _ _ _ _ _ _ _ _ _ _ _ _ _ _ _ _ _ _ _ _ _ _ _ _ _ _ _ _ _ _ _ _ _ _ _ _ _ _ _ _ _ _ _ _ _ _ _ _ _ _ _ _ _ _ _ _ _ _ _ _ _ _ _ _ _ _ _ _ _ _ _ _ _ _ _ _ _ _ _ _ _ _ _ _ _ ?_
                          intro u16 u37 u272 u273 u274 u275 u276 u277 u278 u279 u280 u281 u282 u283 u284 u285 u286 u287 u288 u289 u290 u291 u292 u293 u294 u295 u296 u297 u298 W9 HW9
                          replace HS := Lib.hid (HS.out.call HW9.out)
                          clear HLL HP1 HP2 HW0 HW9
                          go_upto_region 30 with fail
                          obtain ⟨r, hr⟩ : ∃ r : Nat, y = r := ⟨y.toNat, by have := HY.out; omega⟩
                          subst hr
                          refine more_tail w A B ca cb j a b l u lim r _ (by omega) (by omega) HA.out HBB.out HAN.out HBN.out (by have := HY.out; omega) HOK.out.2.1 HOK.out.2.2 (Lib.hid HS.out.of) _ (by assumption) _ _ _ _ _ _ _ _ _ _ _ _ _ _ _ _ _ _ _ _ _ _ _ _ _ _ _ _ _ _ _ _ _ _ _ _ _ _ _ _ _ _ _ _ _ _ _ _ _ _ _ _ _ _ _ _ _ _ _ _ _ _ _ _ _ _ _ _ _ _ _ _ _ _ _ _ _ _ _ _ _ _ _ _ _ _ _ _ _ _ _ _ _ _ _ _ _ _ _ _ _ _ _ _ _ _ _ _ _ _ _ _ _ _ _ _ _ _ _ _ _ _ _ _ _ _ _ _ _ _ _ _ _ _ _ _ _ _ _ _ _ _ _ _ _ _ _ _ _ _ _ _ _ _ _ _ _ _ _ _ _ _ _ _ _ _ _ _ _ _ _ _ _ _ _ _ _ _ _ _ _ _ _ _ _ _ _ _ _ _ _ _ _ _ _ _ _ _ _ _ _ _ _ _ _ _ _ _ _ _ _ _ _ _ _ _ _ _ _ _ _ _ _ _ _ _ _ _ _ _ _ _ _ _ _ _ _ _ _ _ _ _ _ _ _ _ _ _ _ _ _ _ _ _ _ _ _ _ _ _ _ _ _ _ _ _ _ _ _ _ _ _ _ _ _ _ _ _ _ _ _ _ _ _ _ _ _ _ _ _ _ _ _ _ _ _ _ _ _ _ _ _ _ _ _ _ _ _ _ _ _ _ _ _ _ _ _ _ _ _ _ _ _ _ _ _ _ _ _ _ _ _ _ _ _ _ _ _ _ _ _ _ _ _ _ _ _ _ _ _ _ _ _ _ _ _ _ _ _ _ _ _ _ _ _ _ _ _ _ _ _ _ _ _ _ _ _ _ _ _ _ _ _ _ _ _ _ _ _ _ _ _ _ _ _ _ _ _ _ _ _ _ _ _ _ _ _ _ _ _ _ _ _ _
end Go.Proofs.Ytfpfafijockfnaa
