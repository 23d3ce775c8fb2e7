/- Nothing: this seat's chains grow without a library's function. -/
import Derived.Test.YtdceafncncgfbaaDoorProg
